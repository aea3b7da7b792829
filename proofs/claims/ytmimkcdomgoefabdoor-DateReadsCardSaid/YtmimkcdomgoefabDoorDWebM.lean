/-
  date.Web, Mail, Any: what they answer, as functions of the text. Conditions: the text takes at most 2^47 bytes.
-/
import Derived.Test.YtmimkcdomgoefabDoorDWeb
namespace Go.Proofs.YtmimkcdomgoefabDoor
open Go.RowKit

theorem after_num {w0 w w1 : World} {B f : Nat} {s : St} {cs : Array Value} {v : Value} (hd : Blk w (B + 1) 30 cs) (hb : Below B w0 w) (hr : RS w1 B s) (hg : w.grownBy w1 (some B)) :
    RS (w1.setCell ⟨B + 1, f, none⟩ v) B s ∧ Blk (w1.setCell ⟨B + 1, f, none⟩ v) (B + 1) 30 (cs.setIfInBounds f v) ∧ Below B w0 (w1.setCell ⟨B + 1, f, none⟩ v) ∧ w1.cell? ⟨B + 1, f, none⟩ = cs[f]? ∧ w1.frozen? ⟨B + 1, f, none⟩ = false := by
  have hd1 := hd.grown hg (fun e => by injection e with e; omega)
  have hlt := hd.lt
  have b1 : Below B w0 w1 := hb.grown hg (by omega) (fun k hk => by injection hk with hk; omega)
  have hsz := hg.size
  exact ⟨Blk.grown hr (grown_set w1 (B + 1) f v) (fun e => by injection e with e; omega), hd1.set f v, b1.grown (grown_set w1 (B + 1) f v) (by omega) (fun k hk => by injection hk with hk; omega), hd1.cell f, hd1.free f⟩
theorem after_rd {w0 w w1 : World} {B : Nat} {cs : Array Value} (hd : Blk w (B + 1) 30 cs) (hb : Below B w0 w) (hg : w.grownBy w1 (some B)) : Blk w1 (B + 1) 30 cs ∧ Below B w0 w1 := by
  have hlt := hd.lt
  exact ⟨hd.grown hg (fun e => by injection e with e; omega), hb.grown hg (by omega) (fun k hk => by injection hk with hk; omega)⟩

def webS (l : List UInt8) : Option Int :=
  let a := numS 4 ((l, false) : St)
  let b := numS 2 (mustS 45 a.2)
  let c := numS 2 (mustS 45 b.2)
  let k := clockS (if hasB 116 c.2 = true then hasS 116 c.2 else mustS 84 (hasS 116 c.2))
  let e := numS 2 (mustS 58 k.2.2)
  let z := webZoneS (if hasB 46 e.2 = true then (runS digB 1 9 (hasS 46 e.2)).2 else hasS 46 e.2)
  momS a.1 b.1 c.1 k.1 k.2.1 e.1 z.1 z.2

set_option maxHeartbeats 4000000 in
set_option maxRecDepth 100000 in
theorem web_any (l : List UInt8) (w : World) (hl : l.length ≤ 140737488351232) : Calls Tryd.prog 5 #[.string (str l)] w (Made w (momV (webS l))) := by
  have hr0 : RS ((w.alloc (.cells #[.string (str l), .bool false] 37)).alloc (.cells #[.int .i64 0, .int .i64 0, .int .i64 0, .int .i64 0, .int .i64 0, .int .i64 0] 30)) w.heap.size (l, false) := (Blk.fresh w 37 #[.string (str l), .bool false]).alloc _
  have hd0 : Blk ((w.alloc (.cells #[.string (str l), .bool false] 37)).alloc (.cells #[.int .i64 0, .int .i64 0, .int .i64 0, .int .i64 0, .int .i64 0, .int .i64 0] 30)) (w.heap.size + 1) 30 #[.int .i64 0, .int .i64 0, .int .i64 0, .int .i64 0, .int .i64 0, .int .i64 0] := by
    have := Blk.fresh (w.alloc (.cells #[.string (str l), .bool false] 37)) 30 #[.int .i64 0, .int .i64 0, .int .i64 0, .int .i64 0, .int .i64 0, .int .i64 0]
    simpa using this
  have hb0 : Below w.heap.size w ((w.alloc (.cells #[.string (str l), .bool false] 37)).alloc (.cells #[.int .i64 0, .int .i64 0, .int .i64 0, .int .i64 0, .int .i64 0, .int .i64 0] 30)) := ((Below.refl _ _).alloc (Nat.le_refl _) _).alloc (by simp) _
  have hs0 : Short (l, false) := hl
  obtain ⟨s0, hs0e⟩ : ∃ s0 : St, s0 = (l, false) := ⟨_, rfl⟩
  rw [← hs0e] at hr0 hs0
  have E0 := Lib.hid hs0e.symm
  have R0 := Lib.hid hr0
  have D0 := Lib.hid hd0
  have BW0 := Lib.hid hb0
  have HS0 := Lib.hid hs0
  clear hr0 hd0 hb0 hs0 hs0e hl
  go_enter Tryd.func5, Tryd.ntmps5
  go_wp2_with fail
  refine (number_any w.heap.size 4 s0 _ (by exact R0.out) HS0.out (by omega)).mono ?_
  rintro e w1 ⟨rfl, hr1, hg1⟩
  have hs1 := numS_short (n := 4) HS0.out
  generalize hE1 : numS 4 s0 = q1 at hr1 hs1
  obtain ⟨v1, s1⟩ := q1
  simp only at hr1 hs1
  have E1 := Lib.hid hE1
  obtain ⟨ar1, ad1, ab1, ac1, af1⟩ := after_num (f := 0) (v := .int .i64 (v1 : Int)) D0.out BW0.out hr1 hg1
  have cc1 : w1.cell? ⟨w.heap.size + 1, 0, none⟩ = some (.int .i64 0) := ac1
  have dd1 : Blk (w1.setCell ⟨w.heap.size + 1, 0, none⟩ (.int .i64 (v1 : Int))) (w.heap.size + 1) 30 #[.int .i64 (v1 : Int), .int .i64 0, .int .i64 0, .int .i64 0, .int .i64 0, .int .i64 0] := ad1
  have R1 := Lib.hid ar1
  have D1 := Lib.hid dd1
  have BW1 := Lib.hid ab1
  have HS1 := Lib.hid hs1
  clear ar1 ad1 ab1 ac1 dd1 hr1 hg1 hs1 hE1
  go_wp2_with fail
  refine (must_any w.heap.size 45 s1 _ (by exact R1.out) HS1.out (by decide)).mono ?_
  rintro e w2 ⟨rfl, hr2, hg2⟩
  have hs2 := mustS_short (x := 45) HS1.out
  generalize hE2 : mustS 45 s1 = s2 at hr2 hs2
  have E2 := Lib.hid hE2
  obtain ⟨ad2, ab2⟩ := after_rd D1.out BW1.out hg2
  have R2 := Lib.hid hr2
  have D2 := Lib.hid ad2
  have BW2 := Lib.hid ab2
  have HS2 := Lib.hid hs2
  clear hr2 hg2 ad2 ab2 hs2 hE2
  go_wp2_with fail
  refine (number_any w.heap.size 2 s2 _ (by exact R2.out) HS2.out (by omega)).mono ?_
  rintro e w3 ⟨rfl, hr3, hg3⟩
  have hs3 := numS_short (n := 2) HS2.out
  generalize hE3 : numS 2 s2 = q3 at hr3 hs3
  obtain ⟨v3, s3⟩ := q3
  simp only at hr3 hs3
  have E3 := Lib.hid hE3
  obtain ⟨ar3, ad3, ab3, ac3, af3⟩ := after_num (f := 1) (v := .int .i64 (v3 : Int)) D2.out BW2.out hr3 hg3
  have cc3 : w3.cell? ⟨w.heap.size + 1, 1, none⟩ = some (.int .i64 0) := ac3
  have dd3 : Blk (w3.setCell ⟨w.heap.size + 1, 1, none⟩ (.int .i64 (v3 : Int))) (w.heap.size + 1) 30 #[.int .i64 (v1 : Int), .int .i64 (v3 : Int), .int .i64 0, .int .i64 0, .int .i64 0, .int .i64 0] := ad3
  have R3 := Lib.hid ar3
  have D3 := Lib.hid dd3
  have BW3 := Lib.hid ab3
  have HS3 := Lib.hid hs3
  clear ar3 ad3 ab3 ac3 dd3 hr3 hg3 hs3 hE3
  go_wp2_with fail
  refine (must_any w.heap.size 45 s3 _ (by exact R3.out) HS3.out (by decide)).mono ?_
  rintro e w4 ⟨rfl, hr4, hg4⟩
  have hs4 := mustS_short (x := 45) HS3.out
  generalize hE4 : mustS 45 s3 = s4 at hr4 hs4
  have E4 := Lib.hid hE4
  obtain ⟨ad4, ab4⟩ := after_rd D3.out BW3.out hg4
  have R4 := Lib.hid hr4
  have D4 := Lib.hid ad4
  have BW4 := Lib.hid ab4
  have HS4 := Lib.hid hs4
  clear hr4 hg4 ad4 ab4 hs4 hE4
  go_wp2_with fail
  refine (number_any w.heap.size 2 s4 _ (by exact R4.out) HS4.out (by omega)).mono ?_
  rintro e w5 ⟨rfl, hr5, hg5⟩
  have hs5 := numS_short (n := 2) HS4.out
  generalize hE5 : numS 2 s4 = q5 at hr5 hs5
  obtain ⟨v5, s5⟩ := q5
  simp only at hr5 hs5
  have E5 := Lib.hid hE5
  obtain ⟨ar5, ad5, ab5, ac5, af5⟩ := after_num (f := 2) (v := .int .i64 (v5 : Int)) D4.out BW4.out hr5 hg5
  have cc5 : w5.cell? ⟨w.heap.size + 1, 2, none⟩ = some (.int .i64 0) := ac5
  have dd5 : Blk (w5.setCell ⟨w.heap.size + 1, 2, none⟩ (.int .i64 (v5 : Int))) (w.heap.size + 1) 30 #[.int .i64 (v1 : Int), .int .i64 (v3 : Int), .int .i64 (v5 : Int), .int .i64 0, .int .i64 0, .int .i64 0] := ad5
  have R5 := Lib.hid ar5
  have D5 := Lib.hid dd5
  have BW5 := Lib.hid ab5
  have HS5 := Lib.hid hs5
  clear ar5 ad5 ab5 ac5 dd5 hr5 hg5 hs5 hE5
  go_wp2_with fail
  have hh6 := has_any w.heap.size 116 s5 (w5.setCell ⟨w.heap.size + 1, 2, none⟩ (.int .i64 (v5 : Int))) R5.out HS5.out (by decide)
  have hs6 := hasS_short (x := 116) HS5.out
  generalize hE6 : hasS 116 s5 = s6 at hh6 hs6
  have E6 := Lib.hid hE6
  have HS6 := Lib.hid hs6
  cases hB6 : hasB 116 s5 with
  | true =>
    rw [hB6] at hh6
    have EB6 := Lib.hid hB6
    have HH6 := Lib.hid hh6
    clear hh6 hs6 hE6 hB6
    refine HH6.out.mono ?_
    rintro e w6 ⟨rfl, hr6, hg6⟩
    obtain ⟨ad6, ab6⟩ := after_rd D5.out BW5.out hg6
    have R6 := Lib.hid hr6
    have D6 := Lib.hid ad6
    have BW6 := Lib.hid ab6
    clear hr6 hg6 ad6 ab6
    go_wp2_with fail
    refine (clock_any w.heap.size (w.heap.size + 1) w.heap.size s6 _ (by exact R6.out) HS6.out (by omega) (Nat.le_refl _) (by omega) ((v1 : Int)) ((v3 : Int)) ((v5 : Int)) (0) (0) (0) (by exact D6.out)).mono ?_
    rintro e w7 ⟨rfl, hr7, hd7, hb7⟩
    have hs7 := clockS_short HS6.out
    generalize hE7 : clockS s6 = q7 at hr7 hs7 hd7
    obtain ⟨h7, m7, s7⟩ := q7
    simp only at hr7 hs7 hd7
    have E7 := Lib.hid hE7
    have ab7 : Below w.heap.size w w7 := BW6.out.trans hb7
    have R7 := Lib.hid hr7
    have D7 := Lib.hid hd7
    have BW7 := Lib.hid ab7
    have HS7 := Lib.hid hs7
    clear hr7 hd7 hb7 ab7 hs7 hE7
    go_wp2_with fail
    refine (must_any w.heap.size 58 s7 _ (by exact R7.out) HS7.out (by decide)).mono ?_
    rintro e w8 ⟨rfl, hr8, hg8⟩
    have hs8 := mustS_short (x := 58) HS7.out
    generalize hE8 : mustS 58 s7 = s8 at hr8 hs8
    have E8 := Lib.hid hE8
    obtain ⟨ad8, ab8⟩ := after_rd D7.out BW7.out hg8
    have R8 := Lib.hid hr8
    have D8 := Lib.hid ad8
    have BW8 := Lib.hid ab8
    have HS8 := Lib.hid hs8
    clear hr8 hg8 ad8 ab8 hs8 hE8
    go_wp2_with fail
    refine (number_any w.heap.size 2 s8 _ (by exact R8.out) HS8.out (by omega)).mono ?_
    rintro e w9 ⟨rfl, hr9, hg9⟩
    have hs9 := numS_short (n := 2) HS8.out
    generalize hE9 : numS 2 s8 = q9 at hr9 hs9
    obtain ⟨v9, s9⟩ := q9
    simp only at hr9 hs9
    have E9 := Lib.hid hE9
    obtain ⟨ar9, ad9, ab9, ac9, af9⟩ := after_num (f := 5) (v := .int .i64 (v9 : Int)) D8.out BW8.out hr9 hg9
    have cc9 : w9.cell? ⟨w.heap.size + 1, 5, none⟩ = some (.int .i64 0) := ac9
    have dd9 : Blk (w9.setCell ⟨w.heap.size + 1, 5, none⟩ (.int .i64 (v9 : Int))) (w.heap.size + 1) 30 #[.int .i64 (v1 : Int), .int .i64 (v3 : Int), .int .i64 (v5 : Int), .int .i64 (h7 : Int), .int .i64 (m7 : Int), .int .i64 (v9 : Int)] := ad9
    have R9 := Lib.hid ar9
    have D9 := Lib.hid dd9
    have BW9 := Lib.hid ab9
    have HS9 := Lib.hid hs9
    clear ar9 ad9 ab9 ac9 dd9 hr9 hg9 hs9 hE9
    go_wp2_with fail
    have hh10 := has_any w.heap.size 46 s9 (w9.setCell ⟨w.heap.size + 1, 5, none⟩ (.int .i64 (v9 : Int))) R9.out HS9.out (by decide)
    have hs10 := hasS_short (x := 46) HS9.out
    generalize hE10 : hasS 46 s9 = s10 at hh10 hs10
    have E10 := Lib.hid hE10
    have HS10 := Lib.hid hs10
    cases hB10 : hasB 46 s9 with
    | true =>
      rw [hB10] at hh10
      have EB10 := Lib.hid hB10
      have HH10 := Lib.hid hh10
      clear hh10 hs10 hE10 hB10
      refine HH10.out.mono ?_
      rintro e w10 ⟨rfl, hr10, hg10⟩
      obtain ⟨ad10, ab10⟩ := after_rd D9.out BW9.out hg10
      have R10 := Lib.hid hr10
      have D10 := Lib.hid ad10
      have BW10 := Lib.hid ab10
      clear hr10 hg10 ad10 ab10
      go_wp2_with fail
      have hrun11 : Calls Tryd.prog 19 #[.pointer (some ⟨w.heap.size, 0, none⟩), .int .i64 ((1 : Nat) : Int), .int .i64 ((9 : Nat) : Int), .func (.func 20) #[] #[]] w10 (Does w10 w.heap.size (.string (str (runS digB 1 9 s10).1)) (runS digB 1 9 s10).2) := run_dig w.heap.size 1 9 s10.1 s10.2 w10 R10.out HS10.out (by omega)
      have hs11 := runS_short (p := digB) (a := 1) (b := 9) HS10.out
      generalize hE11 : runS digB 1 9 s10 = q11 at hrun11 hs11
      obtain ⟨t11, s11⟩ := q11
      simp only at hrun11 hs11
      have HR11 := Lib.hid hrun11
      clear hrun11
      refine HR11.out.mono ?_
      rintro e w11 ⟨rfl, hr11, hg11⟩
      have E11 := Lib.hid hE11
      obtain ⟨ad11, ab11⟩ := after_rd D10.out BW10.out hg11
      have R11 := Lib.hid hr11
      have D11 := Lib.hid ad11
      have BW11 := Lib.hid ab11
      have HS11 := Lib.hid hs11
      clear hr11 hg11 ad11 ab11 hs11 hE11
      go_wp2_with fail
      have dk := D11.out.drew
      have c0 : (World.drew w11).cell? ⟨w.heap.size + 1, 0, none⟩ = some (.int .i64 (v1 : Int)) := dk.cell 0
      have c1 : (World.drew w11).cell? ⟨w.heap.size + 1, 1, none⟩ = some (.int .i64 (v3 : Int)) := dk.cell 1
      have c2 : (World.drew w11).cell? ⟨w.heap.size + 1, 2, none⟩ = some (.int .i64 (v5 : Int)) := dk.cell 2
      have c3 : (World.drew w11).cell? ⟨w.heap.size + 1, 3, none⟩ = some (.int .i64 (h7 : Int)) := dk.cell 3
      have c4 : (World.drew w11).cell? ⟨w.heap.size + 1, 4, none⟩ = some (.int .i64 (m7 : Int)) := dk.cell 4
      have c5 : (World.drew w11).cell? ⟨w.heap.size + 1, 5, none⟩ = some (.int .i64 (v9 : Int)) := dk.cell 5
      have C0 := Lib.hid c0
      have C1 := Lib.hid c1
      have C2 := Lib.hid c2
      have C3 := Lib.hid c3
      have C4 := Lib.hid c4
      have C5 := Lib.hid c5
      clear c0 c1 c2 c3 c4 c5 dk
      have hzr : Calls Tryd.prog 22 #[.pointer (some ⟨w.heap.size, 0, none⟩)] (World.drew w11) (Does (World.drew w11) w.heap.size (.int .i64 (webZoneS s11).1) (webZoneS s11).2) := webZone_any w.heap.size s11 _ (R11.out.drew) HS11.out
      have hzb := webZoneS_bd s11
      generalize hZ : webZoneS s11 = z at hzr hzb
      obtain ⟨za, zs⟩ := z
      simp only at hzr hzb
      have EZ := Lib.hid hZ
      have HZR := Lib.hid hzr
      have HZB := Lib.hid hzb
      clear hzr hzb hZ
      refine up_start (fun k => k = w.heap.size) (by kernel_rfl) ?_
      refine up_take (by exact at0) (by kernel_rfl) (by exact fun _ _ _ h => h) (by rfl) (by intro W hW; have q0 := cell_up C0.out hW (fun e => by simp at e); have q1 := cell_up C1.out hW (fun e => by simp at e); have q2 := cell_up C2.out hW (fun e => by simp at e); have q3 := cell_up C3.out hW (fun e => by simp at e); have q4 := cell_up C4.out hW (fun e => by simp at e); have q5 := cell_up C5.out hW (fun e => by simp at e); go_simp; try with_reducible rfl) ?_
      simp only [Act.put, List.setIfInBounds_toArray, List.set_cons_zero, List.set_cons_succ]
      refine up_one (by exact (atS at0)) (by kernel_rfl) (fun K hK => ?_)
      go_simp
      refine HZR.out.mono ?_
      rintro e wz ⟨rfl, hrz, hgz⟩
      refine hK.out _ _ (Kept.grown hgz fun k hk => by injection hk with hk; exact hk.symm) ?_
      clear hK K
      refine up_one (by exact (atS (atS at0))) (by kernel_rfl) (fun K hK => ?_)
      go_simp
      refine (rmom_any w.heap.size zs _ (by exact hrz) ((v1 : Int)) ((v3 : Int)) ((v5 : Int)) ((h7 : Int)) ((m7 : Int)) ((v9 : Int)) za HZB.out.1 HZB.out.2).mono ?_
      rintro e wm ⟨rfl, hbm⟩
      refine hK.out _ _ (Kept.below hbm) ?_
      clear hK K
      have hspec : webS l = momS ((v1 : Int)) ((v3 : Int)) ((v5 : Int)) ((h7 : Int)) ((m7 : Int)) ((v9 : Int)) za zs := by
        unfold webS
        simp only [E0.out, E1.out, E2.out, E3.out, E4.out, E5.out, E6.out, EB6.out, E7.out, E8.out, E9.out, E10.out, EB10.out, E11.out, EZ.out, if_true]
      have bz : Below w.heap.size w wz := (BW11.out.drew).grown hgz (by have := BW11.out.size; exact this) (fun k hk => by injection hk with hk; subst hk; exact Nat.le_refl _)
      have bf : Below w.heap.size w wm := bz.trans (hbm.mono bz.size)
      have HSP := Lib.hid hspec
      clear hspec bz hbm hgz hrz
      unfold momV
      refine up_take (by exact (atS (atS (atS at0)))) (by kernel_rfl) (by exact fun _ _ _ h => h) (by rfl) (by intro W hW; go_simp; try with_reducible rfl) ?_
      simp only [Act.put, List.setIfInBounds_toArray, List.set_cons_zero, List.set_cons_succ]
      refine up_take (by exact (atS (atS (atS (atS at0))))) (by kernel_rfl) (by exact fun _ _ _ h => h) (by rfl) (by intro W hW; go_simp; try with_reducible rfl) ?_
      simp only [Act.put, List.setIfInBounds_toArray, List.set_cons_zero, List.set_cons_succ]
      refine up_take (by exact (atS (atS (atS (atS (atS at0)))))) (by kernel_rfl) (by exact fun _ _ _ h => h) (by rfl) (by intro W hW; go_simp; try with_reducible rfl) ?_
      simp only [Act.put, List.setIfInBounds_toArray, List.set_cons_zero, List.set_cons_succ]
      refine up_take (by exact (atS (atS (atS (atS (atS (atS at0))))))) (by kernel_rfl) (by exact fun _ _ _ h => h) (by rfl) (by intro W hW; go_simp; try with_reducible rfl) ?_
      simp only [Act.put, List.setIfInBounds_toArray, List.set_cons_zero, List.set_cons_succ]
      refine up_done (by kernel_rfl) ?_
      go_wp2
      go_ret2
      exact ⟨by rw [HSP.out]; rfl, bf⟩
    | false =>
      rw [hB10] at hh10
      have EB10 := Lib.hid hB10
      have HH10 := Lib.hid hh10
      clear hh10 hs10 hE10 hB10
      refine HH10.out.mono ?_
      rintro e w10 ⟨rfl, hr10, hg10⟩
      obtain ⟨ad10, ab10⟩ := after_rd D9.out BW9.out hg10
      have R10 := Lib.hid hr10
      have D10 := Lib.hid ad10
      have BW10 := Lib.hid ab10
      clear hr10 hg10 ad10 ab10
      go_wp2_with fail
      have dk := D10.out.drew
      have c0 : (World.drew w10).cell? ⟨w.heap.size + 1, 0, none⟩ = some (.int .i64 (v1 : Int)) := dk.cell 0
      have c1 : (World.drew w10).cell? ⟨w.heap.size + 1, 1, none⟩ = some (.int .i64 (v3 : Int)) := dk.cell 1
      have c2 : (World.drew w10).cell? ⟨w.heap.size + 1, 2, none⟩ = some (.int .i64 (v5 : Int)) := dk.cell 2
      have c3 : (World.drew w10).cell? ⟨w.heap.size + 1, 3, none⟩ = some (.int .i64 (h7 : Int)) := dk.cell 3
      have c4 : (World.drew w10).cell? ⟨w.heap.size + 1, 4, none⟩ = some (.int .i64 (m7 : Int)) := dk.cell 4
      have c5 : (World.drew w10).cell? ⟨w.heap.size + 1, 5, none⟩ = some (.int .i64 (v9 : Int)) := dk.cell 5
      have C0 := Lib.hid c0
      have C1 := Lib.hid c1
      have C2 := Lib.hid c2
      have C3 := Lib.hid c3
      have C4 := Lib.hid c4
      have C5 := Lib.hid c5
      clear c0 c1 c2 c3 c4 c5 dk
      have hzr : Calls Tryd.prog 22 #[.pointer (some ⟨w.heap.size, 0, none⟩)] (World.drew w10) (Does (World.drew w10) w.heap.size (.int .i64 (webZoneS s10).1) (webZoneS s10).2) := webZone_any w.heap.size s10 _ (R10.out.drew) HS10.out
      have hzb := webZoneS_bd s10
      generalize hZ : webZoneS s10 = z at hzr hzb
      obtain ⟨za, zs⟩ := z
      simp only at hzr hzb
      have EZ := Lib.hid hZ
      have HZR := Lib.hid hzr
      have HZB := Lib.hid hzb
      clear hzr hzb hZ
      refine up_start (fun k => k = w.heap.size) (by kernel_rfl) ?_
      refine up_take (by exact at0) (by kernel_rfl) (by exact fun _ _ _ h => h) (by rfl) (by intro W hW; have q0 := cell_up C0.out hW (fun e => by simp at e); have q1 := cell_up C1.out hW (fun e => by simp at e); have q2 := cell_up C2.out hW (fun e => by simp at e); have q3 := cell_up C3.out hW (fun e => by simp at e); have q4 := cell_up C4.out hW (fun e => by simp at e); have q5 := cell_up C5.out hW (fun e => by simp at e); go_simp; try with_reducible rfl) ?_
      simp only [Act.put, List.setIfInBounds_toArray, List.set_cons_zero, List.set_cons_succ]
      refine up_one (by exact (atS at0)) (by kernel_rfl) (fun K hK => ?_)
      go_simp
      refine HZR.out.mono ?_
      rintro e wz ⟨rfl, hrz, hgz⟩
      refine hK.out _ _ (Kept.grown hgz fun k hk => by injection hk with hk; exact hk.symm) ?_
      clear hK K
      refine up_one (by exact (atS (atS at0))) (by kernel_rfl) (fun K hK => ?_)
      go_simp
      refine (rmom_any w.heap.size zs _ (by exact hrz) ((v1 : Int)) ((v3 : Int)) ((v5 : Int)) ((h7 : Int)) ((m7 : Int)) ((v9 : Int)) za HZB.out.1 HZB.out.2).mono ?_
      rintro e wm ⟨rfl, hbm⟩
      refine hK.out _ _ (Kept.below hbm) ?_
      clear hK K
      have hspec : webS l = momS ((v1 : Int)) ((v3 : Int)) ((v5 : Int)) ((h7 : Int)) ((m7 : Int)) ((v9 : Int)) za zs := by
        unfold webS
        simp only [E0.out, E1.out, E2.out, E3.out, E4.out, E5.out, E6.out, EB6.out, E7.out, E8.out, E9.out, E10.out, EB10.out, EZ.out, if_true, if_neg (show ¬ (false = true) by simp)]
      have bz : Below w.heap.size w wz := (BW10.out.drew).grown hgz (by have := BW10.out.size; exact this) (fun k hk => by injection hk with hk; subst hk; exact Nat.le_refl _)
      have bf : Below w.heap.size w wm := bz.trans (hbm.mono bz.size)
      have HSP := Lib.hid hspec
      clear hspec bz hbm hgz hrz
      unfold momV
      refine up_take (by exact (atS (atS (atS at0)))) (by kernel_rfl) (by exact fun _ _ _ h => h) (by rfl) (by intro W hW; go_simp; try with_reducible rfl) ?_
      simp only [Act.put, List.setIfInBounds_toArray, List.set_cons_zero, List.set_cons_succ]
      refine up_take (by exact (atS (atS (atS (atS at0))))) (by kernel_rfl) (by exact fun _ _ _ h => h) (by rfl) (by intro W hW; go_simp; try with_reducible rfl) ?_
      simp only [Act.put, List.setIfInBounds_toArray, List.set_cons_zero, List.set_cons_succ]
      refine up_take (by exact (atS (atS (atS (atS (atS at0)))))) (by kernel_rfl) (by exact fun _ _ _ h => h) (by rfl) (by intro W hW; go_simp; try with_reducible rfl) ?_
      simp only [Act.put, List.setIfInBounds_toArray, List.set_cons_zero, List.set_cons_succ]
      refine up_take (by exact (atS (atS (atS (atS (atS (atS at0))))))) (by kernel_rfl) (by exact fun _ _ _ h => h) (by rfl) (by intro W hW; go_simp; try with_reducible rfl) ?_
      simp only [Act.put, List.setIfInBounds_toArray, List.set_cons_zero, List.set_cons_succ]
      refine up_done (by kernel_rfl) ?_
      go_wp2
      go_ret2
      exact ⟨by rw [HSP.out]; rfl, bf⟩
  | false =>
    rw [hB6] at hh6
    have EB6 := Lib.hid hB6
    have HH6 := Lib.hid hh6
    clear hh6 hs6 hE6 hB6
    refine HH6.out.mono ?_
    rintro e w6 ⟨rfl, hr6, hg6⟩
    obtain ⟨ad6, ab6⟩ := after_rd D5.out BW5.out hg6
    have R6 := Lib.hid hr6
    have D6 := Lib.hid ad6
    have BW6 := Lib.hid ab6
    clear hr6 hg6 ad6 ab6
    go_wp2_with fail
    refine (must_any w.heap.size 84 s6 _ (by exact R6.out) HS6.out (by decide)).mono ?_
    rintro e w7 ⟨rfl, hr7, hg7⟩
    have hs7 := mustS_short (x := 84) HS6.out
    generalize hE7 : mustS 84 s6 = s7 at hr7 hs7
    have E7 := Lib.hid hE7
    obtain ⟨ad7, ab7⟩ := after_rd D6.out BW6.out hg7
    have R7 := Lib.hid hr7
    have D7 := Lib.hid ad7
    have BW7 := Lib.hid ab7
    have HS7 := Lib.hid hs7
    clear hr7 hg7 ad7 ab7 hs7 hE7
    go_wp2_with fail
    refine (clock_any w.heap.size (w.heap.size + 1) w.heap.size s7 _ (by exact R7.out) HS7.out (by omega) (Nat.le_refl _) (by omega) ((v1 : Int)) ((v3 : Int)) ((v5 : Int)) (0) (0) (0) (by exact D7.out)).mono ?_
    rintro e w8 ⟨rfl, hr8, hd8, hb8⟩
    have hs8 := clockS_short HS7.out
    generalize hE8 : clockS s7 = q8 at hr8 hs8 hd8
    obtain ⟨h8, m8, s8⟩ := q8
    simp only at hr8 hs8 hd8
    have E8 := Lib.hid hE8
    have ab8 : Below w.heap.size w w8 := BW7.out.trans hb8
    have R8 := Lib.hid hr8
    have D8 := Lib.hid hd8
    have BW8 := Lib.hid ab8
    have HS8 := Lib.hid hs8
    clear hr8 hd8 hb8 ab8 hs8 hE8
    go_wp2_with fail
    refine (must_any w.heap.size 58 s8 _ (by exact R8.out) HS8.out (by decide)).mono ?_
    rintro e w9 ⟨rfl, hr9, hg9⟩
    have hs9 := mustS_short (x := 58) HS8.out
    generalize hE9 : mustS 58 s8 = s9 at hr9 hs9
    have E9 := Lib.hid hE9
    obtain ⟨ad9, ab9⟩ := after_rd D8.out BW8.out hg9
    have R9 := Lib.hid hr9
    have D9 := Lib.hid ad9
    have BW9 := Lib.hid ab9
    have HS9 := Lib.hid hs9
    clear hr9 hg9 ad9 ab9 hs9 hE9
    go_wp2_with fail
    refine (number_any w.heap.size 2 s9 _ (by exact R9.out) HS9.out (by omega)).mono ?_
    rintro e w10 ⟨rfl, hr10, hg10⟩
    have hs10 := numS_short (n := 2) HS9.out
    generalize hE10 : numS 2 s9 = q10 at hr10 hs10
    obtain ⟨v10, s10⟩ := q10
    simp only at hr10 hs10
    have E10 := Lib.hid hE10
    obtain ⟨ar10, ad10, ab10, ac10, af10⟩ := after_num (f := 5) (v := .int .i64 (v10 : Int)) D9.out BW9.out hr10 hg10
    have cc10 : w10.cell? ⟨w.heap.size + 1, 5, none⟩ = some (.int .i64 0) := ac10
    have dd10 : Blk (w10.setCell ⟨w.heap.size + 1, 5, none⟩ (.int .i64 (v10 : Int))) (w.heap.size + 1) 30 #[.int .i64 (v1 : Int), .int .i64 (v3 : Int), .int .i64 (v5 : Int), .int .i64 (h8 : Int), .int .i64 (m8 : Int), .int .i64 (v10 : Int)] := ad10
    have R10 := Lib.hid ar10
    have D10 := Lib.hid dd10
    have BW10 := Lib.hid ab10
    have HS10 := Lib.hid hs10
    clear ar10 ad10 ab10 ac10 dd10 hr10 hg10 hs10 hE10
    go_wp2_with fail
    have hh11 := has_any w.heap.size 46 s10 (w10.setCell ⟨w.heap.size + 1, 5, none⟩ (.int .i64 (v10 : Int))) R10.out HS10.out (by decide)
    have hs11 := hasS_short (x := 46) HS10.out
    generalize hE11 : hasS 46 s10 = s11 at hh11 hs11
    have E11 := Lib.hid hE11
    have HS11 := Lib.hid hs11
    cases hB11 : hasB 46 s10 with
    | true =>
      rw [hB11] at hh11
      have EB11 := Lib.hid hB11
      have HH11 := Lib.hid hh11
      clear hh11 hs11 hE11 hB11
      refine HH11.out.mono ?_
      rintro e w11 ⟨rfl, hr11, hg11⟩
      obtain ⟨ad11, ab11⟩ := after_rd D10.out BW10.out hg11
      have R11 := Lib.hid hr11
      have D11 := Lib.hid ad11
      have BW11 := Lib.hid ab11
      clear hr11 hg11 ad11 ab11
      go_wp2_with fail
      have hrun12 : Calls Tryd.prog 19 #[.pointer (some ⟨w.heap.size, 0, none⟩), .int .i64 ((1 : Nat) : Int), .int .i64 ((9 : Nat) : Int), .func (.func 20) #[] #[]] w11 (Does w11 w.heap.size (.string (str (runS digB 1 9 s11).1)) (runS digB 1 9 s11).2) := run_dig w.heap.size 1 9 s11.1 s11.2 w11 R11.out HS11.out (by omega)
      have hs12 := runS_short (p := digB) (a := 1) (b := 9) HS11.out
      generalize hE12 : runS digB 1 9 s11 = q12 at hrun12 hs12
      obtain ⟨t12, s12⟩ := q12
      simp only at hrun12 hs12
      have HR12 := Lib.hid hrun12
      clear hrun12
      refine HR12.out.mono ?_
      rintro e w12 ⟨rfl, hr12, hg12⟩
      have E12 := Lib.hid hE12
      obtain ⟨ad12, ab12⟩ := after_rd D11.out BW11.out hg12
      have R12 := Lib.hid hr12
      have D12 := Lib.hid ad12
      have BW12 := Lib.hid ab12
      have HS12 := Lib.hid hs12
      clear hr12 hg12 ad12 ab12 hs12 hE12
      go_wp2_with fail
      have dk := D12.out.drew
      have c0 : (World.drew w12).cell? ⟨w.heap.size + 1, 0, none⟩ = some (.int .i64 (v1 : Int)) := dk.cell 0
      have c1 : (World.drew w12).cell? ⟨w.heap.size + 1, 1, none⟩ = some (.int .i64 (v3 : Int)) := dk.cell 1
      have c2 : (World.drew w12).cell? ⟨w.heap.size + 1, 2, none⟩ = some (.int .i64 (v5 : Int)) := dk.cell 2
      have c3 : (World.drew w12).cell? ⟨w.heap.size + 1, 3, none⟩ = some (.int .i64 (h8 : Int)) := dk.cell 3
      have c4 : (World.drew w12).cell? ⟨w.heap.size + 1, 4, none⟩ = some (.int .i64 (m8 : Int)) := dk.cell 4
      have c5 : (World.drew w12).cell? ⟨w.heap.size + 1, 5, none⟩ = some (.int .i64 (v10 : Int)) := dk.cell 5
      have C0 := Lib.hid c0
      have C1 := Lib.hid c1
      have C2 := Lib.hid c2
      have C3 := Lib.hid c3
      have C4 := Lib.hid c4
      have C5 := Lib.hid c5
      clear c0 c1 c2 c3 c4 c5 dk
      have hzr : Calls Tryd.prog 22 #[.pointer (some ⟨w.heap.size, 0, none⟩)] (World.drew w12) (Does (World.drew w12) w.heap.size (.int .i64 (webZoneS s12).1) (webZoneS s12).2) := webZone_any w.heap.size s12 _ (R12.out.drew) HS12.out
      have hzb := webZoneS_bd s12
      generalize hZ : webZoneS s12 = z at hzr hzb
      obtain ⟨za, zs⟩ := z
      simp only at hzr hzb
      have EZ := Lib.hid hZ
      have HZR := Lib.hid hzr
      have HZB := Lib.hid hzb
      clear hzr hzb hZ
      refine up_start (fun k => k = w.heap.size) (by kernel_rfl) ?_
      refine up_take (by exact at0) (by kernel_rfl) (by exact fun _ _ _ h => h) (by rfl) (by intro W hW; have q0 := cell_up C0.out hW (fun e => by simp at e); have q1 := cell_up C1.out hW (fun e => by simp at e); have q2 := cell_up C2.out hW (fun e => by simp at e); have q3 := cell_up C3.out hW (fun e => by simp at e); have q4 := cell_up C4.out hW (fun e => by simp at e); have q5 := cell_up C5.out hW (fun e => by simp at e); go_simp; try with_reducible rfl) ?_
      simp only [Act.put, List.setIfInBounds_toArray, List.set_cons_zero, List.set_cons_succ]
      refine up_one (by exact (atS at0)) (by kernel_rfl) (fun K hK => ?_)
      go_simp
      refine HZR.out.mono ?_
      rintro e wz ⟨rfl, hrz, hgz⟩
      refine hK.out _ _ (Kept.grown hgz fun k hk => by injection hk with hk; exact hk.symm) ?_
      clear hK K
      refine up_one (by exact (atS (atS at0))) (by kernel_rfl) (fun K hK => ?_)
      go_simp
      refine (rmom_any w.heap.size zs _ (by exact hrz) ((v1 : Int)) ((v3 : Int)) ((v5 : Int)) ((h8 : Int)) ((m8 : Int)) ((v10 : Int)) za HZB.out.1 HZB.out.2).mono ?_
      rintro e wm ⟨rfl, hbm⟩
      refine hK.out _ _ (Kept.below hbm) ?_
      clear hK K
      have hspec : webS l = momS ((v1 : Int)) ((v3 : Int)) ((v5 : Int)) ((h8 : Int)) ((m8 : Int)) ((v10 : Int)) za zs := by
        unfold webS
        simp only [E0.out, E1.out, E2.out, E3.out, E4.out, E5.out, E6.out, EB6.out, E7.out, E8.out, E9.out, E10.out, E11.out, EB11.out, E12.out, EZ.out, if_true, if_neg (show ¬ (false = true) by simp)]
      have bz : Below w.heap.size w wz := (BW12.out.drew).grown hgz (by have := BW12.out.size; exact this) (fun k hk => by injection hk with hk; subst hk; exact Nat.le_refl _)
      have bf : Below w.heap.size w wm := bz.trans (hbm.mono bz.size)
      have HSP := Lib.hid hspec
      clear hspec bz hbm hgz hrz
      unfold momV
      refine up_take (by exact (atS (atS (atS at0)))) (by kernel_rfl) (by exact fun _ _ _ h => h) (by rfl) (by intro W hW; go_simp; try with_reducible rfl) ?_
      simp only [Act.put, List.setIfInBounds_toArray, List.set_cons_zero, List.set_cons_succ]
      refine up_take (by exact (atS (atS (atS (atS at0))))) (by kernel_rfl) (by exact fun _ _ _ h => h) (by rfl) (by intro W hW; go_simp; try with_reducible rfl) ?_
      simp only [Act.put, List.setIfInBounds_toArray, List.set_cons_zero, List.set_cons_succ]
      refine up_take (by exact (atS (atS (atS (atS (atS at0)))))) (by kernel_rfl) (by exact fun _ _ _ h => h) (by rfl) (by intro W hW; go_simp; try with_reducible rfl) ?_
      simp only [Act.put, List.setIfInBounds_toArray, List.set_cons_zero, List.set_cons_succ]
      refine up_take (by exact (atS (atS (atS (atS (atS (atS at0))))))) (by kernel_rfl) (by exact fun _ _ _ h => h) (by rfl) (by intro W hW; go_simp; try with_reducible rfl) ?_
      simp only [Act.put, List.setIfInBounds_toArray, List.set_cons_zero, List.set_cons_succ]
      refine up_done (by kernel_rfl) ?_
      go_wp2
      go_ret2
      exact ⟨by rw [HSP.out]; rfl, bf⟩
    | false =>
      rw [hB11] at hh11
      have EB11 := Lib.hid hB11
      have HH11 := Lib.hid hh11
      clear hh11 hs11 hE11 hB11
      refine HH11.out.mono ?_
      rintro e w11 ⟨rfl, hr11, hg11⟩
      obtain ⟨ad11, ab11⟩ := after_rd D10.out BW10.out hg11
      have R11 := Lib.hid hr11
      have D11 := Lib.hid ad11
      have BW11 := Lib.hid ab11
      clear hr11 hg11 ad11 ab11
      go_wp2_with fail
      have dk := D11.out.drew
      have c0 : (World.drew w11).cell? ⟨w.heap.size + 1, 0, none⟩ = some (.int .i64 (v1 : Int)) := dk.cell 0
      have c1 : (World.drew w11).cell? ⟨w.heap.size + 1, 1, none⟩ = some (.int .i64 (v3 : Int)) := dk.cell 1
      have c2 : (World.drew w11).cell? ⟨w.heap.size + 1, 2, none⟩ = some (.int .i64 (v5 : Int)) := dk.cell 2
      have c3 : (World.drew w11).cell? ⟨w.heap.size + 1, 3, none⟩ = some (.int .i64 (h8 : Int)) := dk.cell 3
      have c4 : (World.drew w11).cell? ⟨w.heap.size + 1, 4, none⟩ = some (.int .i64 (m8 : Int)) := dk.cell 4
      have c5 : (World.drew w11).cell? ⟨w.heap.size + 1, 5, none⟩ = some (.int .i64 (v10 : Int)) := dk.cell 5
      have C0 := Lib.hid c0
      have C1 := Lib.hid c1
      have C2 := Lib.hid c2
      have C3 := Lib.hid c3
      have C4 := Lib.hid c4
      have C5 := Lib.hid c5
      clear c0 c1 c2 c3 c4 c5 dk
      have hzr : Calls Tryd.prog 22 #[.pointer (some ⟨w.heap.size, 0, none⟩)] (World.drew w11) (Does (World.drew w11) w.heap.size (.int .i64 (webZoneS s11).1) (webZoneS s11).2) := webZone_any w.heap.size s11 _ (R11.out.drew) HS11.out
      have hzb := webZoneS_bd s11
      generalize hZ : webZoneS s11 = z at hzr hzb
      obtain ⟨za, zs⟩ := z
      simp only at hzr hzb
      have EZ := Lib.hid hZ
      have HZR := Lib.hid hzr
      have HZB := Lib.hid hzb
      clear hzr hzb hZ
      refine up_start (fun k => k = w.heap.size) (by kernel_rfl) ?_
      refine up_take (by exact at0) (by kernel_rfl) (by exact fun _ _ _ h => h) (by rfl) (by intro W hW; have q0 := cell_up C0.out hW (fun e => by simp at e); have q1 := cell_up C1.out hW (fun e => by simp at e); have q2 := cell_up C2.out hW (fun e => by simp at e); have q3 := cell_up C3.out hW (fun e => by simp at e); have q4 := cell_up C4.out hW (fun e => by simp at e); have q5 := cell_up C5.out hW (fun e => by simp at e); go_simp; try with_reducible rfl) ?_
      simp only [Act.put, List.setIfInBounds_toArray, List.set_cons_zero, List.set_cons_succ]
      refine up_one (by exact (atS at0)) (by kernel_rfl) (fun K hK => ?_)
      go_simp
      refine HZR.out.mono ?_
      rintro e wz ⟨rfl, hrz, hgz⟩
      refine hK.out _ _ (Kept.grown hgz fun k hk => by injection hk with hk; exact hk.symm) ?_
      clear hK K
      refine up_one (by exact (atS (atS at0))) (by kernel_rfl) (fun K hK => ?_)
      go_simp
      refine (rmom_any w.heap.size zs _ (by exact hrz) ((v1 : Int)) ((v3 : Int)) ((v5 : Int)) ((h8 : Int)) ((m8 : Int)) ((v10 : Int)) za HZB.out.1 HZB.out.2).mono ?_
      rintro e wm ⟨rfl, hbm⟩
      refine hK.out _ _ (Kept.below hbm) ?_
      clear hK K
      have hspec : webS l = momS ((v1 : Int)) ((v3 : Int)) ((v5 : Int)) ((h8 : Int)) ((m8 : Int)) ((v10 : Int)) za zs := by
        unfold webS
        simp only [E0.out, E1.out, E2.out, E3.out, E4.out, E5.out, E6.out, EB6.out, E7.out, E8.out, E9.out, E10.out, E11.out, EB11.out, EZ.out, if_neg (show ¬ (false = true) by simp)]
      have bz : Below w.heap.size w wz := (BW11.out.drew).grown hgz (by have := BW11.out.size; exact this) (fun k hk => by injection hk with hk; subst hk; exact Nat.le_refl _)
      have bf : Below w.heap.size w wm := bz.trans (hbm.mono bz.size)
      have HSP := Lib.hid hspec
      clear hspec bz hbm hgz hrz
      unfold momV
      refine up_take (by exact (atS (atS (atS at0)))) (by kernel_rfl) (by exact fun _ _ _ h => h) (by rfl) (by intro W hW; go_simp; try with_reducible rfl) ?_
      simp only [Act.put, List.setIfInBounds_toArray, List.set_cons_zero, List.set_cons_succ]
      refine up_take (by exact (atS (atS (atS (atS at0))))) (by kernel_rfl) (by exact fun _ _ _ h => h) (by rfl) (by intro W hW; go_simp; try with_reducible rfl) ?_
      simp only [Act.put, List.setIfInBounds_toArray, List.set_cons_zero, List.set_cons_succ]
      refine up_take (by exact (atS (atS (atS (atS (atS at0)))))) (by kernel_rfl) (by exact fun _ _ _ h => h) (by rfl) (by intro W hW; go_simp; try with_reducible rfl) ?_
      simp only [Act.put, List.setIfInBounds_toArray, List.set_cons_zero, List.set_cons_succ]
      refine up_take (by exact (atS (atS (atS (atS (atS (atS at0))))))) (by kernel_rfl) (by exact fun _ _ _ h => h) (by rfl) (by intro W hW; go_simp; try with_reducible rfl) ?_
      simp only [Act.put, List.setIfInBounds_toArray, List.set_cons_zero, List.set_cons_succ]
      refine up_done (by kernel_rfl) ?_
      go_wp2
      go_ret2
      exact ⟨by rw [HSP.out]; rfl, bf⟩

def mailS (l : List UInt8) : Option Int :=
  let s0 := weekdayS ((l, false) : St)
  let a := runS digB 1 2 s0
  let b := runS letB 3 3 (mustS 32 a.2)
  let c := mailYearS (mustS 32 b.2)
  let k := clockS (mustS 32 c.2)
  let e := if hasB 58 k.2.2 = true then numS 2 (hasS 58 k.2.2) else (0, hasS 58 k.2.2)
  let z := mailZoneS (mustS 32 e.2)
  momS c.1 (monN b.1) (valN a.1) k.1 k.2.1 e.1 z.1 z.2

set_option maxHeartbeats 4000000 in
set_option maxRecDepth 100000 in
theorem mail_any (l : List UInt8) (w : World) (hl : l.length ≤ 140737488351232) : Calls Tryd.prog 6 #[.string (str l)] w (Made w (momV (mailS l))) := by
  have hr0 : RS ((w.alloc (.cells #[.string (str l), .bool false] 37)).alloc (.cells #[.int .i64 0, .int .i64 0, .int .i64 0, .int .i64 0, .int .i64 0, .int .i64 0] 30)) w.heap.size (l, false) := (Blk.fresh w 37 #[.string (str l), .bool false]).alloc _
  have hd0 : Blk ((w.alloc (.cells #[.string (str l), .bool false] 37)).alloc (.cells #[.int .i64 0, .int .i64 0, .int .i64 0, .int .i64 0, .int .i64 0, .int .i64 0] 30)) (w.heap.size + 1) 30 #[.int .i64 0, .int .i64 0, .int .i64 0, .int .i64 0, .int .i64 0, .int .i64 0] := by
    have := Blk.fresh (w.alloc (.cells #[.string (str l), .bool false] 37)) 30 #[.int .i64 0, .int .i64 0, .int .i64 0, .int .i64 0, .int .i64 0, .int .i64 0]
    simpa using this
  have hb0 : Below w.heap.size w ((w.alloc (.cells #[.string (str l), .bool false] 37)).alloc (.cells #[.int .i64 0, .int .i64 0, .int .i64 0, .int .i64 0, .int .i64 0, .int .i64 0] 30)) := ((Below.refl _ _).alloc (Nat.le_refl _) _).alloc (by simp) _
  have hs0 : Short (l, false) := hl
  obtain ⟨s0, hs0e⟩ : ∃ s0 : St, s0 = (l, false) := ⟨_, rfl⟩
  rw [← hs0e] at hr0 hs0
  have E0 := Lib.hid hs0e.symm
  have R0 := Lib.hid hr0
  have D0 := Lib.hid hd0
  have BW0 := Lib.hid hb0
  have HS0 := Lib.hid hs0
  clear hr0 hd0 hb0 hs0 hs0e hl
  go_enter Tryd.func6, Tryd.ntmps6
  go_wp2_with fail
  refine (weekdayS_any w.heap.size s0 _ (by exact R0.out) HS0.out).mono ?_
  rintro e w1 ⟨rfl, hr1, hg1⟩
  have hs1 := weekdayS_short HS0.out
  generalize hE1 : weekdayS s0 = s1 at hr1 hs1
  have E1 := Lib.hid hE1
  obtain ⟨ad1, ab1⟩ := after_rd D0.out BW0.out hg1
  have R1 := Lib.hid hr1
  have D1 := Lib.hid ad1
  have BW1 := Lib.hid ab1
  have HS1 := Lib.hid hs1
  clear hr1 hg1 ad1 ab1 hs1 hE1
  go_wp2_with fail
  have hrun2 : Calls Tryd.prog 19 #[.pointer (some ⟨w.heap.size, 0, none⟩), .int .i64 ((1 : Nat) : Int), .int .i64 ((2 : Nat) : Int), .func (.func 20) #[] #[]] w1 (Does w1 w.heap.size (.string (str (runS digB 1 2 s1).1)) (runS digB 1 2 s1).2) := run_dig w.heap.size 1 2 s1.1 s1.2 w1 R1.out HS1.out (by omega)
  have hdig2 : AllDig (runS digB 1 2 s1).1 := runT_dig 1 2 s1.1
  have hlen2 : (runS digB 1 2 s1).1.length ≤ 2 := runT_len digB 1 2 s1.1
  have hs2 := runS_short (p := digB) (a := 1) (b := 2) HS1.out
  generalize hE2 : runS digB 1 2 s1 = q2 at hrun2 hs2 hdig2 hlen2
  obtain ⟨t2, s2⟩ := q2
  simp only at hrun2 hs2 hdig2 hlen2
  have E2 := Lib.hid hE2
  have HS2 := Lib.hid hs2
  have HR2 := Lib.hid hrun2
  have HD2 := Lib.hid hdig2
  have HLN2 := Lib.hid hlen2
  clear hE2 hs2 hrun2 hdig2 hlen2
  refine HR2.out.mono ?_
  rintro e wr2 ⟨rfl, hrr2, hgr2⟩
  go_wp2_with fail
  refine (value_any t2 wr2 HD2.out (by have := HLN2.out; omega)).mono ?_
  rintro e w2 ⟨rfl, hvb2⟩
  have hr2 : RS w2 w.heap.size s2 := hrr2.below hvb2 hrr2.lt
  have hg2 := grown_made hgr2 hvb2
  obtain ⟨ar2, ad2, ab2, ac2, af2⟩ := after_num (f := 2) (v := .int .i64 (valN t2 : Int)) D1.out BW1.out hr2 hg2
  have cc2 : w2.cell? ⟨w.heap.size + 1, 2, none⟩ = some (.int .i64 0) := ac2
  have dd2 : Blk (w2.setCell ⟨w.heap.size + 1, 2, none⟩ (.int .i64 (valN t2 : Int))) (w.heap.size + 1) 30 #[.int .i64 0, .int .i64 0, .int .i64 (valN t2 : Int), .int .i64 0, .int .i64 0, .int .i64 0] := ad2
  have R2 := Lib.hid ar2
  have D2 := Lib.hid dd2
  have BW2 := Lib.hid ab2
  clear ar2 ad2 ab2 ac2 dd2 hr2 hg2 hrr2 hgr2 hvb2
  go_wp2_with fail
  refine (must_any w.heap.size 32 s2 _ (by exact R2.out) HS2.out (by decide)).mono ?_
  rintro e w3 ⟨rfl, hr3, hg3⟩
  have hs3 := mustS_short (x := 32) HS2.out
  generalize hE3 : mustS 32 s2 = s3 at hr3 hs3
  have E3 := Lib.hid hE3
  obtain ⟨ad3, ab3⟩ := after_rd D2.out BW2.out hg3
  have R3 := Lib.hid hr3
  have D3 := Lib.hid ad3
  have BW3 := Lib.hid ab3
  have HS3 := Lib.hid hs3
  clear hr3 hg3 ad3 ab3 hs3 hE3
  go_wp2_with fail
  have hrun4 : Calls Tryd.prog 19 #[.pointer (some ⟨w.heap.size, 0, none⟩), .int .i64 ((3 : Nat) : Int), .int .i64 ((3 : Nat) : Int), .func (.func 26) #[] #[]] w3 (Does w3 w.heap.size (.string (str (runS letB 3 3 s3).1)) (runS letB 3 3 s3).2) := run_let w.heap.size 3 3 s3.1 s3.2 w3 R3.out HS3.out (by omega)
  have hs4 := runS_short (p := letB) (a := 3) (b := 3) HS3.out
  generalize hE4 : runS letB 3 3 s3 = q4 at hrun4 hs4
  obtain ⟨t4, s4⟩ := q4
  simp only at hrun4 hs4
  have E4 := Lib.hid hE4
  have HS4 := Lib.hid hs4
  have HR4 := Lib.hid hrun4
  clear hE4 hs4 hrun4
  refine HR4.out.mono ?_
  rintro e wr4 ⟨rfl, hrr4, hgr4⟩
  go_wp2_with fail
  refine (month_any t4 wr4).mono ?_
  rintro e w4 ⟨rfl, hww⟩
  subst hww
  have hr4 := hrr4
  have hg4 := hgr4
  obtain ⟨ar4, ad4, ab4, ac4, af4⟩ := after_num (f := 1) (v := .int .i64 (monN t4)) D3.out BW3.out hr4 hg4
  have cc4 : wr4.cell? ⟨w.heap.size + 1, 1, none⟩ = some (.int .i64 0) := ac4
  have dd4 : Blk (wr4.setCell ⟨w.heap.size + 1, 1, none⟩ (.int .i64 (monN t4))) (w.heap.size + 1) 30 #[.int .i64 0, .int .i64 (monN t4), .int .i64 (valN t2 : Int), .int .i64 0, .int .i64 0, .int .i64 0] := ad4
  have R4 := Lib.hid ar4
  have D4 := Lib.hid dd4
  have BW4 := Lib.hid ab4
  clear ar4 ad4 ab4 ac4 dd4 hr4 hg4 hrr4 hgr4
  go_wp2_with fail
  refine (must_any w.heap.size 32 s4 _ (by exact R4.out) HS4.out (by decide)).mono ?_
  rintro e w5 ⟨rfl, hr5, hg5⟩
  have hs5 := mustS_short (x := 32) HS4.out
  generalize hE5 : mustS 32 s4 = s5 at hr5 hs5
  have E5 := Lib.hid hE5
  obtain ⟨ad5, ab5⟩ := after_rd D4.out BW4.out hg5
  have R5 := Lib.hid hr5
  have D5 := Lib.hid ad5
  have BW5 := Lib.hid ab5
  have HS5 := Lib.hid hs5
  clear hr5 hg5 ad5 ab5 hs5 hE5
  go_wp2_with fail
  refine (mailYear_any w.heap.size s5 _ (by exact R5.out) HS5.out).mono ?_
  rintro e w6 ⟨rfl, hr6, hg6⟩
  have hs6 := mailYearS_short HS5.out
  generalize hE6 : mailYearS s5 = q6 at hr6 hs6
  obtain ⟨v6, s6⟩ := q6
  simp only at hr6 hs6
  have E6 := Lib.hid hE6
  obtain ⟨ar6, ad6, ab6, ac6, af6⟩ := after_num (f := 0) (v := .int .i64 v6) D5.out BW5.out hr6 hg6
  have cc6 : w6.cell? ⟨w.heap.size + 1, 0, none⟩ = some (.int .i64 0) := ac6
  have dd6 : Blk (w6.setCell ⟨w.heap.size + 1, 0, none⟩ (.int .i64 v6)) (w.heap.size + 1) 30 #[.int .i64 v6, .int .i64 (monN t4), .int .i64 (valN t2 : Int), .int .i64 0, .int .i64 0, .int .i64 0] := ad6
  have R6 := Lib.hid ar6
  have D6 := Lib.hid dd6
  have BW6 := Lib.hid ab6
  have HS6 := Lib.hid hs6
  clear ar6 ad6 ab6 ac6 dd6 hr6 hg6 hs6 hE6
  go_wp2_with fail
  refine (must_any w.heap.size 32 s6 _ (by exact R6.out) HS6.out (by decide)).mono ?_
  rintro e w7 ⟨rfl, hr7, hg7⟩
  have hs7 := mustS_short (x := 32) HS6.out
  generalize hE7 : mustS 32 s6 = s7 at hr7 hs7
  have E7 := Lib.hid hE7
  obtain ⟨ad7, ab7⟩ := after_rd D6.out BW6.out hg7
  have R7 := Lib.hid hr7
  have D7 := Lib.hid ad7
  have BW7 := Lib.hid ab7
  have HS7 := Lib.hid hs7
  clear hr7 hg7 ad7 ab7 hs7 hE7
  go_wp2_with fail
  refine (clock_any w.heap.size (w.heap.size + 1) w.heap.size s7 _ (by exact R7.out) HS7.out (by omega) (Nat.le_refl _) (by omega) (v6) ((monN t4)) ((valN t2 : Int)) (0) (0) (0) (by exact D7.out)).mono ?_
  rintro e w8 ⟨rfl, hr8, hd8, hb8⟩
  have hs8 := clockS_short HS7.out
  generalize hE8 : clockS s7 = q8 at hr8 hs8 hd8
  obtain ⟨h8, m8, s8⟩ := q8
  simp only at hr8 hs8 hd8
  have E8 := Lib.hid hE8
  have ab8 : Below w.heap.size w w8 := BW7.out.trans hb8
  have R8 := Lib.hid hr8
  have D8 := Lib.hid hd8
  have BW8 := Lib.hid ab8
  have HS8 := Lib.hid hs8
  clear hr8 hd8 hb8 ab8 hs8 hE8
  go_wp2_with fail
  have hh9 := has_any w.heap.size 58 s8 w8 R8.out HS8.out (by decide)
  have hs9 := hasS_short (x := 58) HS8.out
  generalize hE9 : hasS 58 s8 = s9 at hh9 hs9
  have E9 := Lib.hid hE9
  have HS9 := Lib.hid hs9
  cases hB9 : hasB 58 s8 with
  | true =>
    rw [hB9] at hh9
    have EB9 := Lib.hid hB9
    have HH9 := Lib.hid hh9
    clear hh9 hs9 hE9 hB9
    refine HH9.out.mono ?_
    rintro e w9 ⟨rfl, hr9, hg9⟩
    obtain ⟨ad9, ab9⟩ := after_rd D8.out BW8.out hg9
    have R9 := Lib.hid hr9
    have D9 := Lib.hid ad9
    have BW9 := Lib.hid ab9
    clear hr9 hg9 ad9 ab9
    go_wp2_with fail
    refine (number_any w.heap.size 2 s9 _ (by exact R9.out) HS9.out (by omega)).mono ?_
    rintro e w10 ⟨rfl, hr10, hg10⟩
    have hs10 := numS_short (n := 2) HS9.out
    generalize hE10 : numS 2 s9 = q10 at hr10 hs10
    obtain ⟨v10, s10⟩ := q10
    simp only at hr10 hs10
    have E10 := Lib.hid hE10
    obtain ⟨ar10, ad10, ab10, ac10, af10⟩ := after_num (f := 5) (v := .int .i64 (v10 : Int)) D9.out BW9.out hr10 hg10
    have cc10 : w10.cell? ⟨w.heap.size + 1, 5, none⟩ = some (.int .i64 0) := ac10
    have dd10 : Blk (w10.setCell ⟨w.heap.size + 1, 5, none⟩ (.int .i64 (v10 : Int))) (w.heap.size + 1) 30 #[.int .i64 v6, .int .i64 (monN t4), .int .i64 (valN t2 : Int), .int .i64 (h8 : Int), .int .i64 (m8 : Int), .int .i64 (v10 : Int)] := ad10
    have R10 := Lib.hid ar10
    have D10 := Lib.hid dd10
    have BW10 := Lib.hid ab10
    have HS10 := Lib.hid hs10
    clear ar10 ad10 ab10 ac10 dd10 hr10 hg10 hs10 hE10
    go_wp2_with fail
    refine (must_any w.heap.size 32 s10 _ (by exact R10.out) HS10.out (by decide)).mono ?_
    rintro e w11 ⟨rfl, hr11, hg11⟩
    have hs11 := mustS_short (x := 32) HS10.out
    generalize hE11 : mustS 32 s10 = s11 at hr11 hs11
    have E11 := Lib.hid hE11
    obtain ⟨ad11, ab11⟩ := after_rd D10.out BW10.out hg11
    have R11 := Lib.hid hr11
    have D11 := Lib.hid ad11
    have BW11 := Lib.hid ab11
    have HS11 := Lib.hid hs11
    clear hr11 hg11 ad11 ab11 hs11 hE11
    go_wp2_with fail
    have dk := D11.out.drew
    have c0 : (World.drew w11).cell? ⟨w.heap.size + 1, 0, none⟩ = some (.int .i64 v6) := dk.cell 0
    have c1 : (World.drew w11).cell? ⟨w.heap.size + 1, 1, none⟩ = some (.int .i64 (monN t4)) := dk.cell 1
    have c2 : (World.drew w11).cell? ⟨w.heap.size + 1, 2, none⟩ = some (.int .i64 (valN t2 : Int)) := dk.cell 2
    have c3 : (World.drew w11).cell? ⟨w.heap.size + 1, 3, none⟩ = some (.int .i64 (h8 : Int)) := dk.cell 3
    have c4 : (World.drew w11).cell? ⟨w.heap.size + 1, 4, none⟩ = some (.int .i64 (m8 : Int)) := dk.cell 4
    have c5 : (World.drew w11).cell? ⟨w.heap.size + 1, 5, none⟩ = some (.int .i64 (v10 : Int)) := dk.cell 5
    have C0 := Lib.hid c0
    have C1 := Lib.hid c1
    have C2 := Lib.hid c2
    have C3 := Lib.hid c3
    have C4 := Lib.hid c4
    have C5 := Lib.hid c5
    clear c0 c1 c2 c3 c4 c5 dk
    have hzr : Calls Tryd.prog 28 #[.pointer (some ⟨w.heap.size, 0, none⟩)] (World.drew w11) (Does (World.drew w11) w.heap.size (.int .i64 (mailZoneS s11).1) (mailZoneS s11).2) := mailZone_any w.heap.size s11 _ (R11.out.drew) HS11.out
    have hzb := mailZoneS_bd s11
    generalize hZ : mailZoneS s11 = z at hzr hzb
    obtain ⟨za, zs⟩ := z
    simp only at hzr hzb
    have EZ := Lib.hid hZ
    have HZR := Lib.hid hzr
    have HZB := Lib.hid hzb
    clear hzr hzb hZ
    refine up_start (fun k => k = w.heap.size) (by kernel_rfl) ?_
    refine up_take (by exact at0) (by kernel_rfl) (by exact fun _ _ _ h => h) (by rfl) (by intro W hW; have q0 := cell_up C0.out hW (fun e => by simp at e); have q1 := cell_up C1.out hW (fun e => by simp at e); have q2 := cell_up C2.out hW (fun e => by simp at e); have q3 := cell_up C3.out hW (fun e => by simp at e); have q4 := cell_up C4.out hW (fun e => by simp at e); have q5 := cell_up C5.out hW (fun e => by simp at e); go_simp; try with_reducible rfl) ?_
    simp only [Act.put, List.setIfInBounds_toArray, List.set_cons_zero, List.set_cons_succ]
    refine up_one (by exact (atS at0)) (by kernel_rfl) (fun K hK => ?_)
    go_simp
    refine HZR.out.mono ?_
    rintro e wz ⟨rfl, hrz, hgz⟩
    refine hK.out _ _ (Kept.grown hgz fun k hk => by injection hk with hk; exact hk.symm) ?_
    clear hK K
    refine up_one (by exact (atS (atS at0))) (by kernel_rfl) (fun K hK => ?_)
    go_simp
    refine (rmom_any w.heap.size zs _ (by exact hrz) (v6) ((monN t4)) ((valN t2 : Int)) ((h8 : Int)) ((m8 : Int)) ((v10 : Int)) za HZB.out.1 HZB.out.2).mono ?_
    rintro e wm ⟨rfl, hbm⟩
    refine hK.out _ _ (Kept.below hbm) ?_
    clear hK K
    have hspec : mailS l = momS (v6) ((monN t4)) ((valN t2 : Int)) ((h8 : Int)) ((m8 : Int)) ((v10 : Int)) za zs := by
      unfold mailS
      simp only [E0.out, E1.out, E2.out, E3.out, E4.out, E5.out, E6.out, E7.out, E8.out, E9.out, EB9.out, E10.out, E11.out, EZ.out, if_true]
    have bz : Below w.heap.size w wz := (BW11.out.drew).grown hgz (by have := BW11.out.size; exact this) (fun k hk => by injection hk with hk; subst hk; exact Nat.le_refl _)
    have bf : Below w.heap.size w wm := bz.trans (hbm.mono bz.size)
    have HSP := Lib.hid hspec
    clear hspec bz hbm hgz hrz
    unfold momV
    refine up_take (by exact (atS (atS (atS at0)))) (by kernel_rfl) (by exact fun _ _ _ h => h) (by rfl) (by intro W hW; go_simp; try with_reducible rfl) ?_
    simp only [Act.put, List.setIfInBounds_toArray, List.set_cons_zero, List.set_cons_succ]
    refine up_take (by exact (atS (atS (atS (atS at0))))) (by kernel_rfl) (by exact fun _ _ _ h => h) (by rfl) (by intro W hW; go_simp; try with_reducible rfl) ?_
    simp only [Act.put, List.setIfInBounds_toArray, List.set_cons_zero, List.set_cons_succ]
    refine up_take (by exact (atS (atS (atS (atS (atS at0)))))) (by kernel_rfl) (by exact fun _ _ _ h => h) (by rfl) (by intro W hW; go_simp; try with_reducible rfl) ?_
    simp only [Act.put, List.setIfInBounds_toArray, List.set_cons_zero, List.set_cons_succ]
    refine up_take (by exact (atS (atS (atS (atS (atS (atS at0))))))) (by kernel_rfl) (by exact fun _ _ _ h => h) (by rfl) (by intro W hW; go_simp; try with_reducible rfl) ?_
    simp only [Act.put, List.setIfInBounds_toArray, List.set_cons_zero, List.set_cons_succ]
    refine up_done (by kernel_rfl) ?_
    go_wp2
    go_ret2
    exact ⟨by rw [HSP.out]; rfl, bf⟩
  | false =>
    rw [hB9] at hh9
    have EB9 := Lib.hid hB9
    have HH9 := Lib.hid hh9
    clear hh9 hs9 hE9 hB9
    refine HH9.out.mono ?_
    rintro e w9 ⟨rfl, hr9, hg9⟩
    obtain ⟨ad9, ab9⟩ := after_rd D8.out BW8.out hg9
    have R9 := Lib.hid hr9
    have D9 := Lib.hid ad9
    have BW9 := Lib.hid ab9
    clear hr9 hg9 ad9 ab9
    go_wp2_with fail
    refine (must_any w.heap.size 32 s9 _ (by exact R9.out) HS9.out (by decide)).mono ?_
    rintro e w10 ⟨rfl, hr10, hg10⟩
    have hs10 := mustS_short (x := 32) HS9.out
    generalize hE10 : mustS 32 s9 = s10 at hr10 hs10
    have E10 := Lib.hid hE10
    obtain ⟨ad10, ab10⟩ := after_rd D9.out BW9.out hg10
    have R10 := Lib.hid hr10
    have D10 := Lib.hid ad10
    have BW10 := Lib.hid ab10
    have HS10 := Lib.hid hs10
    clear hr10 hg10 ad10 ab10 hs10 hE10
    go_wp2_with fail
    have dk := D10.out.drew
    have c0 : (World.drew w10).cell? ⟨w.heap.size + 1, 0, none⟩ = some (.int .i64 v6) := dk.cell 0
    have c1 : (World.drew w10).cell? ⟨w.heap.size + 1, 1, none⟩ = some (.int .i64 (monN t4)) := dk.cell 1
    have c2 : (World.drew w10).cell? ⟨w.heap.size + 1, 2, none⟩ = some (.int .i64 (valN t2 : Int)) := dk.cell 2
    have c3 : (World.drew w10).cell? ⟨w.heap.size + 1, 3, none⟩ = some (.int .i64 (h8 : Int)) := dk.cell 3
    have c4 : (World.drew w10).cell? ⟨w.heap.size + 1, 4, none⟩ = some (.int .i64 (m8 : Int)) := dk.cell 4
    have c5 : (World.drew w10).cell? ⟨w.heap.size + 1, 5, none⟩ = some (.int .i64 0) := dk.cell 5
    have C0 := Lib.hid c0
    have C1 := Lib.hid c1
    have C2 := Lib.hid c2
    have C3 := Lib.hid c3
    have C4 := Lib.hid c4
    have C5 := Lib.hid c5
    clear c0 c1 c2 c3 c4 c5 dk
    have hzr : Calls Tryd.prog 28 #[.pointer (some ⟨w.heap.size, 0, none⟩)] (World.drew w10) (Does (World.drew w10) w.heap.size (.int .i64 (mailZoneS s10).1) (mailZoneS s10).2) := mailZone_any w.heap.size s10 _ (R10.out.drew) HS10.out
    have hzb := mailZoneS_bd s10
    generalize hZ : mailZoneS s10 = z at hzr hzb
    obtain ⟨za, zs⟩ := z
    simp only at hzr hzb
    have EZ := Lib.hid hZ
    have HZR := Lib.hid hzr
    have HZB := Lib.hid hzb
    clear hzr hzb hZ
    refine up_start (fun k => k = w.heap.size) (by kernel_rfl) ?_
    refine up_take (by exact at0) (by kernel_rfl) (by exact fun _ _ _ h => h) (by rfl) (by intro W hW; have q0 := cell_up C0.out hW (fun e => by simp at e); have q1 := cell_up C1.out hW (fun e => by simp at e); have q2 := cell_up C2.out hW (fun e => by simp at e); have q3 := cell_up C3.out hW (fun e => by simp at e); have q4 := cell_up C4.out hW (fun e => by simp at e); have q5 := cell_up C5.out hW (fun e => by simp at e); go_simp; try with_reducible rfl) ?_
    simp only [Act.put, List.setIfInBounds_toArray, List.set_cons_zero, List.set_cons_succ]
    refine up_one (by exact (atS at0)) (by kernel_rfl) (fun K hK => ?_)
    go_simp
    refine HZR.out.mono ?_
    rintro e wz ⟨rfl, hrz, hgz⟩
    refine hK.out _ _ (Kept.grown hgz fun k hk => by injection hk with hk; exact hk.symm) ?_
    clear hK K
    refine up_one (by exact (atS (atS at0))) (by kernel_rfl) (fun K hK => ?_)
    go_simp
    refine (rmom_any w.heap.size zs _ (by exact hrz) (v6) ((monN t4)) ((valN t2 : Int)) ((h8 : Int)) ((m8 : Int)) (0) za HZB.out.1 HZB.out.2).mono ?_
    rintro e wm ⟨rfl, hbm⟩
    refine hK.out _ _ (Kept.below hbm) ?_
    clear hK K
    have hspec : mailS l = momS (v6) ((monN t4)) ((valN t2 : Int)) ((h8 : Int)) ((m8 : Int)) (0) za zs := by
      unfold mailS
      simp only [E0.out, E1.out, E2.out, E3.out, E4.out, E5.out, E6.out, E7.out, E8.out, E9.out, EB9.out, E10.out, EZ.out, if_neg (show ¬ (false = true) by simp)] <;> rfl
    have bz : Below w.heap.size w wz := (BW10.out.drew).grown hgz (by have := BW10.out.size; exact this) (fun k hk => by injection hk with hk; subst hk; exact Nat.le_refl _)
    have bf : Below w.heap.size w wm := bz.trans (hbm.mono bz.size)
    have HSP := Lib.hid hspec
    clear hspec bz hbm hgz hrz
    unfold momV
    refine up_take (by exact (atS (atS (atS at0)))) (by kernel_rfl) (by exact fun _ _ _ h => h) (by rfl) (by intro W hW; go_simp; try with_reducible rfl) ?_
    simp only [Act.put, List.setIfInBounds_toArray, List.set_cons_zero, List.set_cons_succ]
    refine up_take (by exact (atS (atS (atS (atS at0))))) (by kernel_rfl) (by exact fun _ _ _ h => h) (by rfl) (by intro W hW; go_simp; try with_reducible rfl) ?_
    simp only [Act.put, List.setIfInBounds_toArray, List.set_cons_zero, List.set_cons_succ]
    refine up_take (by exact (atS (atS (atS (atS (atS at0)))))) (by kernel_rfl) (by exact fun _ _ _ h => h) (by rfl) (by intro W hW; go_simp; try with_reducible rfl) ?_
    simp only [Act.put, List.setIfInBounds_toArray, List.set_cons_zero, List.set_cons_succ]
    refine up_take (by exact (atS (atS (atS (atS (atS (atS at0))))))) (by kernel_rfl) (by exact fun _ _ _ h => h) (by rfl) (by intro W hW; go_simp; try with_reducible rfl) ?_
    simp only [Act.put, List.setIfInBounds_toArray, List.set_cons_zero, List.set_cons_succ]
    refine up_done (by kernel_rfl) ?_
    go_wp2
    go_ret2
    exact ⟨by rw [HSP.out]; rfl, bf⟩

def anyS (l : List UInt8) : Option Int := match webS l with | some n => some n | none => mailS l

set_option maxHeartbeats 400000 in
theorem any_any (l : List UInt8) (w : World) (hl : l.length ≤ 140737488351232) : Calls Tryd.prog 7 #[.string (str l)] w (Made w (momV (anyS l))) := by
  have h1 := web_any l w hl
  have h2 := fun w1 => mail_any l w1 hl
  unfold anyS
  cases hw : webS l with
  | some n =>
    rw [hw] at h1
    have H1 := Lib.hid h1
    clear h1 h2 hw
    go_enter Tryd.func7, Tryd.ntmps7
    go_wp2_with fail
    refine H1.out.mono ?_
    unfold momV
    simp only [Option.getD_some, errN]
    rintro e w1 ⟨rfl, b1⟩
    go_wp2_with fail
    go_ret2
    exact ⟨rfl, b1⟩
  | none =>
    rw [hw] at h1
    have H1 := Lib.hid h1
    have H2 := Lib.hid h2
    clear h1 h2 hw
    go_enter Tryd.func7, Tryd.ntmps7
    go_wp2_with fail
    refine H1.out.mono ?_
    unfold momV
    simp only [Option.getD_none, errN]
    rintro e w1 ⟨rfl, b1⟩
    go_wp2_with fail
    refine (H2.out w1).mono ?_
    unfold momV
    rintro e w2 ⟨rfl, b2⟩
    go_wp2_with fail
    go_ret2
    exact ⟨rfl, b1.trans (b2.mono b1.size)⟩
end Go.Proofs.YtmimkcdomgoefabDoor
