/-
  The document's own reading of a date of the web (newsstandref04.Web). Condition: a text's length is a length.
-/
import Derived.Test.YtmimkcdomgoefabDoorDRefTold
namespace Go.Proofs.YtmimkcdomgoefabDoor
open Go.RowKit

theorem slc (l : List UInt8) (a b : Nat) (h1 : a ≤ b) (h2 : b ≤ l.length) (w : World) :
    (Instr.slice 9 (.string (str l)) (some (.int .i64 (a : Int))) (some (.int .i64 (b : Int))) none).run Tryd.prog w = .ok (.string (str ((l.drop a).take (b - a)))) w := by
  rw [run_slice_string w 9 (str l) .i64 .i64 (a : Int) (b : Int) Tryd.underlying9 (by omega) (by omega) (by rw [str_size]; omega)]
  unfold str
  rw [ByteArray.extract_mk]
  rfl
theorem slt (l : List UInt8) (a : Nat) (h2 : a ≤ l.length) (w : World) :
    (Instr.slice 9 (.string (str l)) (some (.int .i64 (a : Int))) none none).run Tryd.prog w = .ok (.string (str (l.drop a))) w := by
  rw [run_slice_string_from_if w 9 (str l) .i64 (a : Int) Tryd.underlying9, if_pos (by rw [str_size]; omega), str_size]
  exact congrArg (fun s => Result.ok (Value.string s) w) (str_drop l a)
theorem slf (l : List UInt8) (b : Nat) (h2 : b ≤ l.length) (w : World) :
    (Instr.slice 9 (.string (str l)) none (some (.int .i64 (b : Int))) none).run Tryd.prog w = .ok (.string (str (l.take b))) w := by
  rw [run_slice_string_to_if w 9 (str l) .i64 (b : Int) Tryd.underlying9, if_pos (by rw [str_size]; omega)]
  exact congrArg (fun s => Result.ok (Value.string s) w) (str_take l b)
/-- The byte at a place (0: there is none). -/
def at0B (l : List UInt8) (k : Nat) : Nat := (l.getD k 0).toNat
theorem idx_at (l : List UInt8) (k : Nat) (h : k < l.length) (w : World) :
    (Instr.index 9 (.string (str l)) (.int .i64 (k : Int))).run Tryd.prog w = .ok (.int .u8 (at0B l k : Int)) w := by
  rw [idx_str l k h w]
  unfold at0B
  rw [show l.getD k 0 = l[k] by simp [List.getD, h]]

section
variable {P : Program} {ops : Array Oper} {Q : Exit → Act → World → Prop} {D : Nat → Prop}
/-- Two operations that may come up either way. -/
theorem up_two {i j : Nat} {oi oj : Oper} {fuel : Nat} {listed : Array Bool} {a : Act} {w : World} (hi : ops[i]? = some oi) (hj : ops[j]? = some oj) (hr : Region.ready .any ops listed = [i, j])
    (h : ∀ K : Act → World → Prop, Shut (∀ a' w', Kept D w w' → Up P ops Q D fuel (listed.setIfInBounds i true) a' w' → K a' w') →
      if Region.wanted oi (yielded ops a.tmps) = true then Oper.wp P oi a w K Q else K (a.put oi.dst undef) w)
    (h' : ∀ K : Act → World → Prop, Shut (∀ a' w', Kept D w w' → Up P ops Q D fuel (listed.setIfInBounds j true) a' w' → K a' w') →
      if Region.wanted oj (yielded ops a.tmps) = true then Oper.wp P oj a w K Q else K (a.put oj.dst undef) w) : Up P ops Q D (fuel + 1) listed a w := by
  refine wpAnyH_ready (rs := [i, j]) hr (by simp) (AllReadyH.cons hi (fun K hK => h K (fun a' w' hb hu => hK.out a' w' hb fun _ => ?_)) (AllReadyH.cons hj (fun K hK => h' K (fun a' w' hb hu => hK.out a' w' hb fun _ => ?_)) AllReadyH.nil))
  · exact held_mono (fun W hW => hb.trans hW) _ _ _ _ hu
  · exact held_mono (fun W hW => hb.trans hW) _ _ _ _ hu
end

theorem kept_cells (w : World) (o o' : Obj) : Kept (· = w.heap.size) (w.alloc o).drew (w.alloc o').drew :=
  ⟨rfl, rfl, rfl, by simp, fun k hk hd => by
    have hk' : k < w.heap.size := by
      have h1 : k < w.heap.size + 1 := by simpa using hk
      have h2 : ¬ k = w.heap.size := hd
      omega
    exact (((Below.refl w.heap.size w).alloc (Nat.le_refl _) o').block k hk').trans (((Below.refl w.heap.size w).alloc (Nat.le_refl _) o).block k hk').symm⟩

/-- A text's first bytes are those of a date. -/
def headR (l : List UInt8) : Prop := 20 ≤ l.length ∧ at0B l 4 = 45 ∧ at0B l 7 = 45 ∧ (at0B l 10 = 84 ∨ at0B l 10 = 116) ∧ at0B l 13 = 58 ∧ at0B l 16 = 58
instance (l : List UInt8) : Decidable (headR l) := by unfold headR; infer_instance
/-- Of what stands behind the seconds and their parts. -/
def restR (y m d h mi s : Int) (r : List UInt8) : Option Int :=
  if r = [90] ∨ r = [122] then toldR y m d h mi s 0
  else if r.length = 6 ∧ at0B r 3 = 58 then (match zoneR (at0B r 0) ((r.drop 1).take 2) (r.drop 4) with | some z => toldR y m d h mi s z | none => none)
  else none
def DotRel (r : List UInt8) (u : Value) : Prop := ∃ k : Nat, Led digB r.length (r.drop 1) k ∧ u = .int .i64 ((k : Int) + 1)
theorem dot_at (r : List UInt8) (k : Nat) (h : k + 1 < r.length) : at0B r (k + 1) = ((r.drop 1)[k]'(by simp; omega)).toNat := by
  unfold at0B
  simp [List.getD, h]
def fracR (r : List UInt8) : Nat := 1 + lead digB r.length (r.drop 1)
def webR (l : List UInt8) : Option Int :=
  if headR l then
    if at0B (l.drop 19) 0 = 46 then
      if fracR (l.drop 19) < 2 ∨ 10 < fracR (l.drop 19) then none
      else restR (numR (l.take 4)) (numR ((l.drop 5).take 2)) (numR ((l.drop 8).take 2)) (numR ((l.drop 11).take 2)) (numR ((l.drop 14).take 2)) (numR ((l.drop 17).take 2)) ((l.drop 19).drop (fracR (l.drop 19)))
    else restR (numR (l.take 4)) (numR ((l.drop 5).take 2)) (numR ((l.drop 8).take 2)) (numR ((l.drop 11).take 2)) (numR ((l.drop 14).take 2)) (numR ((l.drop 17).take 2)) (l.drop 19)
  else none

set_option maxHeartbeats 3200000 in
theorem rweb_no (l : List UInt8) (w : World) (hh : ¬ headR l) : Calls Tryd.prog 8 #[.string (str l)] w (Made w (isV none)) := by
  unfold headR at hh
  by_cases h1 : l.length < 20
  · have hI : (l.length : Int) < 20 := by omega
    clear hh h1
    go_enter Tryd.func8, Tryd.ntmps8
    go_wp2_with fail
    go_ret2
    exact ⟨rfl, Below.refl _ _⟩
  · have hI : ¬ (l.length : Int) < 20 := by omega
    have x4 : ∀ W, (Instr.index 9 (.string (str l)) (.int .i64 4)).run Tryd.prog W = .ok (.int .u8 (at0B l 4 : Int)) W := fun W => idx_at l 4 (by omega) W
    have x7 : ∀ W, (Instr.index 9 (.string (str l)) (.int .i64 7)).run Tryd.prog W = .ok (.int .u8 (at0B l 7 : Int)) W := fun W => idx_at l 7 (by omega) W
    have x10 : ∀ W, (Instr.index 9 (.string (str l)) (.int .i64 10)).run Tryd.prog W = .ok (.int .u8 (at0B l 10 : Int)) W := fun W => idx_at l 10 (by omega) W
    have x13 : ∀ W, (Instr.index 9 (.string (str l)) (.int .i64 13)).run Tryd.prog W = .ok (.int .u8 (at0B l 13 : Int)) W := fun W => idx_at l 13 (by omega) W
    have x16 : ∀ W, (Instr.index 9 (.string (str l)) (.int .i64 16)).run Tryd.prog W = .ok (.int .u8 (at0B l 16 : Int)) W := fun W => idx_at l 16 (by omega) W
    have hcs : ¬ (at0B l 4 = 45 ∧ at0B l 7 = 45 ∧ (at0B l 10 = 84 ∨ at0B l 10 = 116) ∧ at0B l 13 = 58 ∧ at0B l 16 = 58) := fun h => hh ⟨by omega, h⟩
    generalize at0B l 4 = c4 at x4 hcs
    generalize at0B l 7 = c7 at x7 hcs
    generalize at0B l 10 = c10 at x10 hcs
    generalize at0B l 13 = c13 at x13 hcs
    generalize at0B l 16 = c16 at x16 hcs
    clear hh h1
    by_cases k4 : c4 = 45
    case neg =>
      have b4 : ((c4 : Int) != 45) = true := by simp; omega
      clear hcs k4
      go_enter Tryd.func8, Tryd.ntmps8
      go_wp2_with fail
      go_ret2
      exact ⟨rfl, Below.refl _ _⟩
    by_cases k7 : c7 = 45
    case neg =>
      have b7 : ((c7 : Int) != 45) = true := by simp; omega
      subst k4
      clear hcs k7
      go_enter Tryd.func8, Tryd.ntmps8
      go_wp2_with fail
      go_ret2
      exact ⟨rfl, Below.refl _ _⟩
    by_cases k10 : c10 = 84 ∨ c10 = 116
    case neg =>
      have b10 : ((c10 : Int) != 84) = true := by simp; omega
      have b11 : ((c10 : Int) != 116) = true := by simp; omega
      subst k4 k7
      clear hcs k10
      go_enter Tryd.func8, Tryd.ntmps8
      go_wp2_with fail
      go_ret2
      exact ⟨rfl, Below.refl _ _⟩
    by_cases k13 : c13 = 58
    case neg =>
      have b13 : ((c13 : Int) != 58) = true := by simp; omega
      subst k4 k7
      clear hcs k13
      rcases k10 with rfl | rfl
      all_goals
        go_enter Tryd.func8, Tryd.ntmps8
        go_wp2_with fail
        go_ret2
        exact ⟨rfl, Below.refl _ _⟩
    have b16 : ((c16 : Int) != 58) = true := by
      have : ¬ c16 = 58 := fun h => hcs ⟨k4, k7, k10, k13, h⟩
      simp; omega
    subst k4 k7 k13
    clear hcs
    rcases k10 with rfl | rfl
    all_goals
      go_enter Tryd.func8, Tryd.ntmps8
      go_wp2_with fail
      go_ret2
      exact ⟨rfl, Below.refl _ _⟩

set_option maxHeartbeats 8000000 in
set_option maxRecDepth 100000 in
theorem rweb_yes (l : List UInt8) (w : World) (hl : l.length ≤ 140737488351232) (hh : headR l) : Calls Tryd.prog 8 #[.string (str l)] w (Made w (isV (webR l))) := by
  obtain ⟨ans, hans⟩ : ∃ ans, ans = webR l := ⟨_, rfl⟩
  rw [← hans]
  unfold webR at hans
  rw [if_pos hh] at hans
  obtain ⟨h20, k4, k7, k10, k13, k16⟩ := hh
  have hI : ¬ (l.length : Int) < 20 := by omega
  have x4 : ∀ W, (Instr.index 9 (.string (str l)) (.int .i64 4)).run Tryd.prog W = .ok (.int .u8 (at0B l 4 : Int)) W := fun W => idx_at l 4 (by omega) W
  have x7 : ∀ W, (Instr.index 9 (.string (str l)) (.int .i64 7)).run Tryd.prog W = .ok (.int .u8 (at0B l 7 : Int)) W := fun W => idx_at l 7 (by omega) W
  have x10 : ∀ W, (Instr.index 9 (.string (str l)) (.int .i64 10)).run Tryd.prog W = .ok (.int .u8 (at0B l 10 : Int)) W := fun W => idx_at l 10 (by omega) W
  have x13 : ∀ W, (Instr.index 9 (.string (str l)) (.int .i64 13)).run Tryd.prog W = .ok (.int .u8 (at0B l 13 : Int)) W := fun W => idx_at l 13 (by omega) W
  have x16 : ∀ W, (Instr.index 9 (.string (str l)) (.int .i64 16)).run Tryd.prog W = .ok (.int .u8 (at0B l 16 : Int)) W := fun W => idx_at l 16 (by omega) W
  have s0 : ∀ W, (Instr.slice 9 (.string (str l)) none (some (.int .i64 4)) none).run Tryd.prog W = .ok (.string (str (l.take 4))) W := fun W => slf l 4 (by omega) W
  have m0 := fun w1 => rnum_any (l.take 4) w1 (by simp; omega)
  have s1 : ∀ W, (Instr.slice 9 (.string (str l)) (some (.int .i64 5)) (some (.int .i64 7)) none).run Tryd.prog W = .ok (.string (str ((l.drop 5).take 2))) W := fun W => slc l 5 7 (by omega) (by omega) W
  have m1 := fun w1 => rnum_any ((l.drop 5).take 2) w1 (by simp; omega)
  have s2 : ∀ W, (Instr.slice 9 (.string (str l)) (some (.int .i64 8)) (some (.int .i64 10)) none).run Tryd.prog W = .ok (.string (str ((l.drop 8).take 2))) W := fun W => slc l 8 10 (by omega) (by omega) W
  have m2 := fun w1 => rnum_any ((l.drop 8).take 2) w1 (by simp; omega)
  have s3 : ∀ W, (Instr.slice 9 (.string (str l)) (some (.int .i64 11)) (some (.int .i64 13)) none).run Tryd.prog W = .ok (.string (str ((l.drop 11).take 2))) W := fun W => slc l 11 13 (by omega) (by omega) W
  have m3 := fun w1 => rnum_any ((l.drop 11).take 2) w1 (by simp; omega)
  have s4 : ∀ W, (Instr.slice 9 (.string (str l)) (some (.int .i64 14)) (some (.int .i64 16)) none).run Tryd.prog W = .ok (.string (str ((l.drop 14).take 2))) W := fun W => slc l 14 16 (by omega) (by omega) W
  have m4 := fun w1 => rnum_any ((l.drop 14).take 2) w1 (by simp; omega)
  have s5 : ∀ W, (Instr.slice 9 (.string (str l)) (some (.int .i64 17)) (some (.int .i64 19)) none).run Tryd.prog W = .ok (.string (str ((l.drop 17).take 2))) W := fun W => slc l 17 19 (by omega) (by omega) W
  have m5 := fun w1 => rnum_any ((l.drop 17).take 2) w1 (by simp; omega)
  have s6 : ∀ W, (Instr.slice 9 (.string (str l)) (some (.int .i64 19)) none none).run Tryd.prog W = .ok (.string (str (l.drop 19))) W := fun W => slt l 19 (by omega) W
  have hr1 : 1 ≤ (l.drop 19).length := by simp; omega
  have hrl : (l.drop 19).length ≤ 140737488351232 := by simp; omega
  generalize numR (l.take 4) = n0 at m0 hans
  generalize l.take 4 = p0 at s0 m0
  have N0 := Lib.hid m0
  clear m0
  generalize numR ((l.drop 5).take 2) = n1 at m1 hans
  generalize (l.drop 5).take 2 = p1 at s1 m1
  have N1 := Lib.hid m1
  clear m1
  generalize numR ((l.drop 8).take 2) = n2 at m2 hans
  generalize (l.drop 8).take 2 = p2 at s2 m2
  have N2 := Lib.hid m2
  clear m2
  generalize numR ((l.drop 11).take 2) = n3 at m3 hans
  generalize (l.drop 11).take 2 = p3 at s3 m3
  have N3 := Lib.hid m3
  clear m3
  generalize numR ((l.drop 14).take 2) = n4 at m4 hans
  generalize (l.drop 14).take 2 = p4 at s4 m4
  have N4 := Lib.hid m4
  clear m4
  generalize numR ((l.drop 17).take 2) = n5 at m5 hans
  generalize (l.drop 17).take 2 = p5 at s5 m5
  have N5 := Lib.hid m5
  clear m5
  generalize l.drop 19 = r at s6 hr1 hrl hans
  rw [k4] at x4
  rw [k7] at x7
  rw [k13] at x13
  rw [k16] at x16
  generalize at0B l 10 = c10 at x10 k10
  clear k4 k7 k13 k16 h20
  have HANS := Lib.hid hans
  clear hans
  go_enter Tryd.func8, Tryd.ntmps8
  go_upto_region 1 with fail
  go_cut [41] (fun b wx => b = .bool false ∧ wx = w)
  case first =>
    rcases k10 with rfl | rfl
    all_goals
      go_wp2_with fail
      go_meet
      exact ⟨rfl, rfl⟩
  case rest =>
    obtain ⟨rfl, hw0⟩ := hcut
    subst wc
    clear x4 x7 x10 x13 x16 k10 hI c10
    go_upto_region 3 with fail
    go_cut [4] (fun p wx => p = .pointer (some ⟨w.heap.size, 0, none⟩) ∧ wx = (w.alloc (.cells #[.int .i64 n0, .int .i64 n1, .int .i64 n2, .int .i64 n3, .int .i64 n4, .int .i64 n5] 30)).drew)
    case first =>
      refine up_start (· = w.heap.size) (by kernel_rfl) ?_
      refine up_take (by exact at0) (by kernel_rfl) (by exact fun _ _ _ h => h) (by rfl) (by intro W hW; go_simp; try with_reducible rfl) ?_
      simp only [Act.put, List.setIfInBounds_toArray, List.set_cons_zero, List.set_cons_succ]
      refine up_take (by exact (atS at0)) (by kernel_rfl) (by exact fun _ _ _ h => h) (by rfl) (by intro W hW; go_simp; try with_reducible rfl) ?_
      simp only [Act.put, List.setIfInBounds_toArray, List.set_cons_zero, List.set_cons_succ]
      refine up_take (by exact (atS (atS (atS at0)))) (by kernel_rfl) (by exact fun _ _ _ h => h) (by rfl) (by intro W hW; go_simp; try with_reducible rfl) ?_
      simp only [Act.put, List.setIfInBounds_toArray, List.set_cons_zero, List.set_cons_succ]
      refine up_take (by exact (atS (atS (atS (atS at0))))) (by kernel_rfl) (by exact fun _ _ _ h => h) (by rfl) (by intro W hW; go_simp; try with_reducible rfl) ?_
      simp only [Act.put, List.setIfInBounds_toArray, List.set_cons_zero, List.set_cons_succ]
      refine up_take (by exact (atS (atS (atS (atS (atS (atS at0))))))) (by kernel_rfl) (by exact fun _ _ _ h => h) (by rfl) (by intro W hW; go_simp; try with_reducible rfl) ?_
      simp only [Act.put, List.setIfInBounds_toArray, List.set_cons_zero, List.set_cons_succ]
      refine up_take (by exact (atS (atS (atS (atS (atS (atS (atS at0)))))))) (by kernel_rfl) (by exact fun _ _ _ h => h) (by rfl) (by intro W hW; go_simp; try with_reducible rfl) ?_
      simp only [Act.put, List.setIfInBounds_toArray, List.set_cons_zero, List.set_cons_succ]
      refine up_take (by exact (atS (atS (atS (atS (atS (atS (atS (atS (atS at0)))))))))) (by kernel_rfl) (by exact fun _ _ _ h => h) (by rfl) (by intro W hW; go_simp; try with_reducible rfl) ?_
      simp only [Act.put, List.setIfInBounds_toArray, List.set_cons_zero, List.set_cons_succ]
      refine up_take (by exact (atS (atS (atS (atS (atS (atS (atS (atS (atS (atS at0))))))))))) (by kernel_rfl) (by exact fun _ _ _ h => h) (by rfl) (by intro W hW; go_simp; try with_reducible rfl) ?_
      simp only [Act.put, List.setIfInBounds_toArray, List.set_cons_zero, List.set_cons_succ]
      refine up_take (by exact (atS (atS (atS (atS (atS (atS (atS (atS (atS (atS (atS (atS at0))))))))))))) (by kernel_rfl) (by exact fun _ _ _ h => h) (by rfl) (by intro W hW; go_simp; try with_reducible rfl) ?_
      simp only [Act.put, List.setIfInBounds_toArray, List.set_cons_zero, List.set_cons_succ]
      refine up_take (by exact (atS (atS (atS (atS (atS (atS (atS (atS (atS (atS (atS (atS (atS at0)))))))))))))) (by kernel_rfl) (by exact fun _ _ _ h => h) (by rfl) (by intro W hW; go_simp; try with_reducible rfl) ?_
      simp only [Act.put, List.setIfInBounds_toArray, List.set_cons_zero, List.set_cons_succ]
      refine up_take (by exact (atS (atS (atS (atS (atS (atS (atS (atS (atS (atS (atS (atS (atS (atS (atS at0)))))))))))))))) (by kernel_rfl) (by exact fun _ _ _ h => h) (by rfl) (by intro W hW; go_simp; try with_reducible rfl) ?_
      simp only [Act.put, List.setIfInBounds_toArray, List.set_cons_zero, List.set_cons_succ]
      refine up_take (by exact (atS (atS (atS (atS (atS (atS (atS (atS (atS (atS (atS (atS (atS (atS (atS (atS at0))))))))))))))))) (by kernel_rfl) (by exact fun _ _ _ h => h) (by rfl) (by intro W hW; go_simp; try with_reducible rfl) ?_
      simp only [Act.put, List.setIfInBounds_toArray, List.set_cons_zero, List.set_cons_succ]
      refine up_two (by exact (atS (atS at0))) (by exact (atS (atS (atS (atS (atS (atS (atS (atS (atS (atS (atS (atS (atS (atS (atS (atS (atS (atS (atS at0)))))))))))))))))))) (by kernel_rfl) (fun K hK => ?_) (fun K hK => ?_)
      rotate_left
      · go_simp
        refine hK.out _ _ (Kept.below ((Below.refl _ _).alloc (Nat.le_refl _) _)) ?_
        clear hK K
        refine up_one (by exact (atS (atS at0))) (by kernel_rfl) (fun K hK => ?_)
        go_simp
        refine (N0.out _).mono ?_
        rintro e w9 ⟨rfl, rfl⟩
        refine hK.out _ _ (Kept.refl _ _) ?_
        clear hK K
        refine up_one (by exact (atS (atS (atS (atS (atS at0)))))) (by kernel_rfl) (fun K hK => ?_)
        go_simp
        refine (N1.out _).mono ?_
        rintro e w9 ⟨rfl, rfl⟩
        refine hK.out _ _ (Kept.refl _ _) ?_
        clear hK K
        refine up_one (by exact (atS (atS (atS (atS (atS (atS (atS (atS at0))))))))) (by kernel_rfl) (fun K hK => ?_)
        go_simp
        refine (N2.out _).mono ?_
        rintro e w9 ⟨rfl, rfl⟩
        refine hK.out _ _ (Kept.refl _ _) ?_
        clear hK K
        refine up_one (by exact (atS (atS (atS (atS (atS (atS (atS (atS (atS (atS (atS at0)))))))))))) (by kernel_rfl) (fun K hK => ?_)
        go_simp
        refine (N3.out _).mono ?_
        rintro e w9 ⟨rfl, rfl⟩
        refine hK.out _ _ (Kept.refl _ _) ?_
        clear hK K
        refine up_one (by exact (atS (atS (atS (atS (atS (atS (atS (atS (atS (atS (atS (atS (atS (atS at0))))))))))))))) (by kernel_rfl) (fun K hK => ?_)
        go_simp
        refine (N4.out _).mono ?_
        rintro e w9 ⟨rfl, rfl⟩
        refine hK.out _ _ (Kept.refl _ _) ?_
        clear hK K
        refine up_one (by exact (atS (atS (atS (atS (atS (atS (atS (atS (atS (atS (atS (atS (atS (atS (atS (atS (atS at0)))))))))))))))))) (by kernel_rfl) (fun K hK => ?_)
        go_simp
        refine (N5.out _).mono ?_
        rintro e w9 ⟨rfl, rfl⟩
        refine hK.out _ _ (Kept.refl _ _) ?_
        clear hK K
        refine up_take (by exact (atS (atS (atS (atS (atS (atS (atS (atS (atS (atS (atS (atS (atS (atS (atS (atS (atS (atS at0))))))))))))))))))) (by kernel_rfl) (by exact fun _ _ _ h => h) (by rfl) (by intro W hW; go_simp; try with_reducible rfl) ?_
        simp only [Act.put, List.setIfInBounds_toArray, List.set_cons_zero, List.set_cons_succ]
        refine up_one (by exact (atS (atS (atS (atS (atS (atS (atS (atS (atS (atS (atS (atS (atS (atS (atS (atS (atS (atS (atS (atS at0))))))))))))))))))))) (by kernel_rfl) (fun K hK => ?_)
        go_simp
        refine hK.out _ _ (kept_cells _ _ _) ?_
        clear hK K
        refine up_done (by kernel_rfl) ?_
        go_wp2_with fail
        go_meet
        exact ⟨rfl, rfl⟩
      go_simp
      refine (N0.out _).mono ?_
      rintro e w9 ⟨rfl, rfl⟩
      refine hK.out _ _ (Kept.refl _ _) ?_
      clear hK K
      refine up_two (by exact (atS (atS (atS (atS (atS at0)))))) (by exact (atS (atS (atS (atS (atS (atS (atS (atS (atS (atS (atS (atS (atS (atS (atS (atS (atS (atS (atS at0)))))))))))))))))))) (by kernel_rfl) (fun K hK => ?_) (fun K hK => ?_)
      rotate_left
      · go_simp
        refine hK.out _ _ (Kept.below ((Below.refl _ _).alloc (Nat.le_refl _) _)) ?_
        clear hK K
        refine up_one (by exact (atS (atS (atS (atS (atS at0)))))) (by kernel_rfl) (fun K hK => ?_)
        go_simp
        refine (N1.out _).mono ?_
        rintro e w9 ⟨rfl, rfl⟩
        refine hK.out _ _ (Kept.refl _ _) ?_
        clear hK K
        refine up_one (by exact (atS (atS (atS (atS (atS (atS (atS (atS at0))))))))) (by kernel_rfl) (fun K hK => ?_)
        go_simp
        refine (N2.out _).mono ?_
        rintro e w9 ⟨rfl, rfl⟩
        refine hK.out _ _ (Kept.refl _ _) ?_
        clear hK K
        refine up_one (by exact (atS (atS (atS (atS (atS (atS (atS (atS (atS (atS (atS at0)))))))))))) (by kernel_rfl) (fun K hK => ?_)
        go_simp
        refine (N3.out _).mono ?_
        rintro e w9 ⟨rfl, rfl⟩
        refine hK.out _ _ (Kept.refl _ _) ?_
        clear hK K
        refine up_one (by exact (atS (atS (atS (atS (atS (atS (atS (atS (atS (atS (atS (atS (atS (atS at0))))))))))))))) (by kernel_rfl) (fun K hK => ?_)
        go_simp
        refine (N4.out _).mono ?_
        rintro e w9 ⟨rfl, rfl⟩
        refine hK.out _ _ (Kept.refl _ _) ?_
        clear hK K
        refine up_one (by exact (atS (atS (atS (atS (atS (atS (atS (atS (atS (atS (atS (atS (atS (atS (atS (atS (atS at0)))))))))))))))))) (by kernel_rfl) (fun K hK => ?_)
        go_simp
        refine (N5.out _).mono ?_
        rintro e w9 ⟨rfl, rfl⟩
        refine hK.out _ _ (Kept.refl _ _) ?_
        clear hK K
        refine up_take (by exact (atS (atS (atS (atS (atS (atS (atS (atS (atS (atS (atS (atS (atS (atS (atS (atS (atS (atS at0))))))))))))))))))) (by kernel_rfl) (by exact fun _ _ _ h => h) (by rfl) (by intro W hW; go_simp; try with_reducible rfl) ?_
        simp only [Act.put, List.setIfInBounds_toArray, List.set_cons_zero, List.set_cons_succ]
        refine up_one (by exact (atS (atS (atS (atS (atS (atS (atS (atS (atS (atS (atS (atS (atS (atS (atS (atS (atS (atS (atS (atS at0))))))))))))))))))))) (by kernel_rfl) (fun K hK => ?_)
        go_simp
        refine hK.out _ _ (kept_cells _ _ _) ?_
        clear hK K
        refine up_done (by kernel_rfl) ?_
        go_wp2_with fail
        go_meet
        exact ⟨rfl, rfl⟩
      go_simp
      refine (N1.out _).mono ?_
      rintro e w9 ⟨rfl, rfl⟩
      refine hK.out _ _ (Kept.refl _ _) ?_
      clear hK K
      refine up_two (by exact (atS (atS (atS (atS (atS (atS (atS (atS at0))))))))) (by exact (atS (atS (atS (atS (atS (atS (atS (atS (atS (atS (atS (atS (atS (atS (atS (atS (atS (atS (atS at0)))))))))))))))))))) (by kernel_rfl) (fun K hK => ?_) (fun K hK => ?_)
      rotate_left
      · go_simp
        refine hK.out _ _ (Kept.below ((Below.refl _ _).alloc (Nat.le_refl _) _)) ?_
        clear hK K
        refine up_one (by exact (atS (atS (atS (atS (atS (atS (atS (atS at0))))))))) (by kernel_rfl) (fun K hK => ?_)
        go_simp
        refine (N2.out _).mono ?_
        rintro e w9 ⟨rfl, rfl⟩
        refine hK.out _ _ (Kept.refl _ _) ?_
        clear hK K
        refine up_one (by exact (atS (atS (atS (atS (atS (atS (atS (atS (atS (atS (atS at0)))))))))))) (by kernel_rfl) (fun K hK => ?_)
        go_simp
        refine (N3.out _).mono ?_
        rintro e w9 ⟨rfl, rfl⟩
        refine hK.out _ _ (Kept.refl _ _) ?_
        clear hK K
        refine up_one (by exact (atS (atS (atS (atS (atS (atS (atS (atS (atS (atS (atS (atS (atS (atS at0))))))))))))))) (by kernel_rfl) (fun K hK => ?_)
        go_simp
        refine (N4.out _).mono ?_
        rintro e w9 ⟨rfl, rfl⟩
        refine hK.out _ _ (Kept.refl _ _) ?_
        clear hK K
        refine up_one (by exact (atS (atS (atS (atS (atS (atS (atS (atS (atS (atS (atS (atS (atS (atS (atS (atS (atS at0)))))))))))))))))) (by kernel_rfl) (fun K hK => ?_)
        go_simp
        refine (N5.out _).mono ?_
        rintro e w9 ⟨rfl, rfl⟩
        refine hK.out _ _ (Kept.refl _ _) ?_
        clear hK K
        refine up_take (by exact (atS (atS (atS (atS (atS (atS (atS (atS (atS (atS (atS (atS (atS (atS (atS (atS (atS (atS at0))))))))))))))))))) (by kernel_rfl) (by exact fun _ _ _ h => h) (by rfl) (by intro W hW; go_simp; try with_reducible rfl) ?_
        simp only [Act.put, List.setIfInBounds_toArray, List.set_cons_zero, List.set_cons_succ]
        refine up_one (by exact (atS (atS (atS (atS (atS (atS (atS (atS (atS (atS (atS (atS (atS (atS (atS (atS (atS (atS (atS (atS at0))))))))))))))))))))) (by kernel_rfl) (fun K hK => ?_)
        go_simp
        refine hK.out _ _ (kept_cells _ _ _) ?_
        clear hK K
        refine up_done (by kernel_rfl) ?_
        go_wp2_with fail
        go_meet
        exact ⟨rfl, rfl⟩
      go_simp
      refine (N2.out _).mono ?_
      rintro e w9 ⟨rfl, rfl⟩
      refine hK.out _ _ (Kept.refl _ _) ?_
      clear hK K
      refine up_two (by exact (atS (atS (atS (atS (atS (atS (atS (atS (atS (atS (atS at0)))))))))))) (by exact (atS (atS (atS (atS (atS (atS (atS (atS (atS (atS (atS (atS (atS (atS (atS (atS (atS (atS (atS at0)))))))))))))))))))) (by kernel_rfl) (fun K hK => ?_) (fun K hK => ?_)
      rotate_left
      · go_simp
        refine hK.out _ _ (Kept.below ((Below.refl _ _).alloc (Nat.le_refl _) _)) ?_
        clear hK K
        refine up_one (by exact (atS (atS (atS (atS (atS (atS (atS (atS (atS (atS (atS at0)))))))))))) (by kernel_rfl) (fun K hK => ?_)
        go_simp
        refine (N3.out _).mono ?_
        rintro e w9 ⟨rfl, rfl⟩
        refine hK.out _ _ (Kept.refl _ _) ?_
        clear hK K
        refine up_one (by exact (atS (atS (atS (atS (atS (atS (atS (atS (atS (atS (atS (atS (atS (atS at0))))))))))))))) (by kernel_rfl) (fun K hK => ?_)
        go_simp
        refine (N4.out _).mono ?_
        rintro e w9 ⟨rfl, rfl⟩
        refine hK.out _ _ (Kept.refl _ _) ?_
        clear hK K
        refine up_one (by exact (atS (atS (atS (atS (atS (atS (atS (atS (atS (atS (atS (atS (atS (atS (atS (atS (atS at0)))))))))))))))))) (by kernel_rfl) (fun K hK => ?_)
        go_simp
        refine (N5.out _).mono ?_
        rintro e w9 ⟨rfl, rfl⟩
        refine hK.out _ _ (Kept.refl _ _) ?_
        clear hK K
        refine up_take (by exact (atS (atS (atS (atS (atS (atS (atS (atS (atS (atS (atS (atS (atS (atS (atS (atS (atS (atS at0))))))))))))))))))) (by kernel_rfl) (by exact fun _ _ _ h => h) (by rfl) (by intro W hW; go_simp; try with_reducible rfl) ?_
        simp only [Act.put, List.setIfInBounds_toArray, List.set_cons_zero, List.set_cons_succ]
        refine up_one (by exact (atS (atS (atS (atS (atS (atS (atS (atS (atS (atS (atS (atS (atS (atS (atS (atS (atS (atS (atS (atS at0))))))))))))))))))))) (by kernel_rfl) (fun K hK => ?_)
        go_simp
        refine hK.out _ _ (kept_cells _ _ _) ?_
        clear hK K
        refine up_done (by kernel_rfl) ?_
        go_wp2_with fail
        go_meet
        exact ⟨rfl, rfl⟩
      go_simp
      refine (N3.out _).mono ?_
      rintro e w9 ⟨rfl, rfl⟩
      refine hK.out _ _ (Kept.refl _ _) ?_
      clear hK K
      refine up_two (by exact (atS (atS (atS (atS (atS (atS (atS (atS (atS (atS (atS (atS (atS (atS at0))))))))))))))) (by exact (atS (atS (atS (atS (atS (atS (atS (atS (atS (atS (atS (atS (atS (atS (atS (atS (atS (atS (atS at0)))))))))))))))))))) (by kernel_rfl) (fun K hK => ?_) (fun K hK => ?_)
      rotate_left
      · go_simp
        refine hK.out _ _ (Kept.below ((Below.refl _ _).alloc (Nat.le_refl _) _)) ?_
        clear hK K
        refine up_one (by exact (atS (atS (atS (atS (atS (atS (atS (atS (atS (atS (atS (atS (atS (atS at0))))))))))))))) (by kernel_rfl) (fun K hK => ?_)
        go_simp
        refine (N4.out _).mono ?_
        rintro e w9 ⟨rfl, rfl⟩
        refine hK.out _ _ (Kept.refl _ _) ?_
        clear hK K
        refine up_one (by exact (atS (atS (atS (atS (atS (atS (atS (atS (atS (atS (atS (atS (atS (atS (atS (atS (atS at0)))))))))))))))))) (by kernel_rfl) (fun K hK => ?_)
        go_simp
        refine (N5.out _).mono ?_
        rintro e w9 ⟨rfl, rfl⟩
        refine hK.out _ _ (Kept.refl _ _) ?_
        clear hK K
        refine up_take (by exact (atS (atS (atS (atS (atS (atS (atS (atS (atS (atS (atS (atS (atS (atS (atS (atS (atS (atS at0))))))))))))))))))) (by kernel_rfl) (by exact fun _ _ _ h => h) (by rfl) (by intro W hW; go_simp; try with_reducible rfl) ?_
        simp only [Act.put, List.setIfInBounds_toArray, List.set_cons_zero, List.set_cons_succ]
        refine up_one (by exact (atS (atS (atS (atS (atS (atS (atS (atS (atS (atS (atS (atS (atS (atS (atS (atS (atS (atS (atS (atS at0))))))))))))))))))))) (by kernel_rfl) (fun K hK => ?_)
        go_simp
        refine hK.out _ _ (kept_cells _ _ _) ?_
        clear hK K
        refine up_done (by kernel_rfl) ?_
        go_wp2_with fail
        go_meet
        exact ⟨rfl, rfl⟩
      go_simp
      refine (N4.out _).mono ?_
      rintro e w9 ⟨rfl, rfl⟩
      refine hK.out _ _ (Kept.refl _ _) ?_
      clear hK K
      refine up_two (by exact (atS (atS (atS (atS (atS (atS (atS (atS (atS (atS (atS (atS (atS (atS (atS (atS (atS at0)))))))))))))))))) (by exact (atS (atS (atS (atS (atS (atS (atS (atS (atS (atS (atS (atS (atS (atS (atS (atS (atS (atS (atS at0)))))))))))))))))))) (by kernel_rfl) (fun K hK => ?_) (fun K hK => ?_)
      rotate_left
      · go_simp
        refine hK.out _ _ (Kept.below ((Below.refl _ _).alloc (Nat.le_refl _) _)) ?_
        clear hK K
        refine up_one (by exact (atS (atS (atS (atS (atS (atS (atS (atS (atS (atS (atS (atS (atS (atS (atS (atS (atS at0)))))))))))))))))) (by kernel_rfl) (fun K hK => ?_)
        go_simp
        refine (N5.out _).mono ?_
        rintro e w9 ⟨rfl, rfl⟩
        refine hK.out _ _ (Kept.refl _ _) ?_
        clear hK K
        refine up_take (by exact (atS (atS (atS (atS (atS (atS (atS (atS (atS (atS (atS (atS (atS (atS (atS (atS (atS (atS at0))))))))))))))))))) (by kernel_rfl) (by exact fun _ _ _ h => h) (by rfl) (by intro W hW; go_simp; try with_reducible rfl) ?_
        simp only [Act.put, List.setIfInBounds_toArray, List.set_cons_zero, List.set_cons_succ]
        refine up_one (by exact (atS (atS (atS (atS (atS (atS (atS (atS (atS (atS (atS (atS (atS (atS (atS (atS (atS (atS (atS (atS at0))))))))))))))))))))) (by kernel_rfl) (fun K hK => ?_)
        go_simp
        refine hK.out _ _ (kept_cells _ _ _) ?_
        clear hK K
        refine up_done (by kernel_rfl) ?_
        go_wp2_with fail
        go_meet
        exact ⟨rfl, rfl⟩
      go_simp
      refine (N5.out _).mono ?_
      rintro e w9 ⟨rfl, rfl⟩
      refine hK.out _ _ (Kept.refl _ _) ?_
      clear hK K
      refine up_take (by exact (atS (atS (atS (atS (atS (atS (atS (atS (atS (atS (atS (atS (atS (atS (atS (atS (atS (atS at0))))))))))))))))))) (by kernel_rfl) (by exact fun _ _ _ h => h) (by rfl) (by intro W hW; go_simp; try with_reducible rfl) ?_
      simp only [Act.put, List.setIfInBounds_toArray, List.set_cons_zero, List.set_cons_succ]
      refine up_one (by exact (atS (atS (atS (atS (atS (atS (atS (atS (atS (atS (atS (atS (atS (atS (atS (atS (atS (atS (atS at0)))))))))))))))))))) (by kernel_rfl) (fun K hK => ?_)
      go_simp
      refine hK.out _ _ (Kept.below ((Below.refl _ _).alloc (Nat.le_refl _) _)) ?_
      clear hK K
      refine up_one (by exact (atS (atS (atS (atS (atS (atS (atS (atS (atS (atS (atS (atS (atS (atS (atS (atS (atS (atS (atS (atS at0))))))))))))))))))))) (by kernel_rfl) (fun K hK => ?_)
      go_simp
      refine hK.out _ _ (kept_cells _ _ _) ?_
      clear hK K
      refine up_done (by kernel_rfl) ?_
      go_wp2_with fail
      go_meet
      exact ⟨rfl, rfl⟩
    case rest =>
      obtain ⟨rfl, hwx⟩ := hcut
      obtain ⟨wd, hwd⟩ : ∃ wd, wd = wc := ⟨_, rfl⟩
      subst hwd
      have hd : Blk wd w.heap.size 30 #[.int .i64 n0, .int .i64 n1, .int .i64 n2, .int .i64 n3, .int .i64 n4, .int .i64 n5] := by rw [hwx]; exact Blk.fresh w 30 #[.int .i64 n0, .int .i64 n1, .int .i64 n2, .int .i64 n3, .int .i64 n4, .int .i64 n5]
      have hb : Below w.heap.size w wd := by rw [hwx]; exact ((Below.refl _ _).alloc (Nat.le_refl _) _).drew
      have HB := Lib.hid hb
      have HD := Lib.hid hd
      clear hwx hd hb
      clear s0 s1 s2 s3 s4 s5 N0 N1 N2 N3 N4 N5 p0 p1 p2 p3 p4 p5
      have hans := HANS.out
      clear HANS
      have y0 : ∀ W, (Instr.index 9 (.string (str r)) (.int .i64 0)).run Tryd.prog W = .ok (.int .u8 (at0B r 0 : Int)) W := fun W => idx_at r 0 (by omega) W
      generalize hd0 : at0B r 0 = d0 at y0 hans
      have HANS := Lib.hid hans
      clear hd0 hans
      go_upto_if 65 with fail
      go_cut [5, 6] (fun v _ wx => ∃ q : List UInt8, v = .string (str q) ∧ q.length ≤ 140737488351232 ∧ ans = restR n0 n1 n2 n3 n4 n5 q ∧ wx = wd)
      case first =>
        have hans := HANS.out
        clear HANS
        by_cases hdot : d0 = 46
        case neg =>
          rw [if_neg hdot] at hans
          have bdot : ((d0 : Int) == 46) = false := by simp; omega
          have HA := Lib.hid hans
          clear hdot hans
          go_wp2_with fail
          go_meet
          exact ⟨r, rfl, hrl, HA.out, rfl⟩
        case pos =>
          subst hdot
          rw [if_pos rfl] at hans
          have HANS := Lib.hid hans
          clear hans
          go_wp2_with fail
          go_loop [6] (DotRel r) (fun u => (r.length + 1 - intOf u).toNat)
          case atStart => exact ⟨0, led_start _ _ _, rfl⟩
          case round =>
            obtain ⟨k, hled, rfl⟩ := hrel
            have hk := hled.1
            have hk1 : (r.drop 1).length = r.length - 1 := by simp
            by_cases hgo : k + 1 < r.length ∧ 48 ≤ at0B r (k + 1) ∧ at0B r (k + 1) ≤ 57
            case pos =>
              obtain ⟨g1, g2, g3⟩ := hgo
              have hgI : ((k : Int) + 1) < (r.length : Int) := by omega
              have hyk : ∀ W, (Instr.index 9 (.string (str r)) (.int .i64 ((k : Int) + 1))).run Tryd.prog W = .ok (.int .u8 (at0B r (k + 1) : Int)) W := fun W => idx_at r (k + 1) g1 W
              have hmore : Led digB r.length (r.drop 1) (k + 1) := led_more hled (by omega) (by omega) (by rw [← dot_at r k g1]; exact (dig_iff _).2 ⟨g2, g3⟩)
              have HMO := Lib.hid hmore
              generalize at0B r (k + 1) = d at hyk g2 g3
              have d1 : (48 : Int) ≤ (d : Int) := by omega
              have d2 : (d : Int) ≤ 57 := by omega
              clear hled hmore g2 g3 hk hk1
              go_wp2_with fail
              go_round
              case rel => exact ⟨k + 1, HMO.out, rfl⟩
              case measure => simp [intOf]; omega
            case neg =>
              have hfr : fracR r = k + 1 := by
                unfold fracR
                by_cases g1 : k + 1 < r.length
                · rw [led_no hled (by omega) (by rw [← dot_at r k g1]; exact (dig_no _).2 (fun h => hgo ⟨g1, h⟩)), Nat.add_comm]
                · rw [led_end hled (by omega), Nat.add_comm]
              have hans := HANS.out
              clear HANS
              rw [hfr] at hans
              have hways : ¬ ((k : Int) + 1 < (r.length : Int)) ∨ ((k : Int) + 1 < (r.length : Int) ∧ ∃ d : Nat, (∀ W, (Instr.index 9 (.string (str r)) (.int .i64 ((k : Int) + 1))).run Tryd.prog W = .ok (.int .u8 (d : Int)) W) ∧ ((d : Int) < 48 ∨ (48 ≤ (d : Int) ∧ 57 < (d : Int)))) := by
                by_cases g1 : k + 1 < r.length
                · exact .inr ⟨by omega, at0B r (k + 1), fun W => idx_at r (k + 1) g1 W, by omega⟩
                · exact .inl (by omega)
              have hq : ∀ W, (Instr.slice 9 (.string (str r)) (some (.int .i64 ((k : Int) + 1))) none none).run Tryd.prog W = .ok (.string (str (r.drop (k + 1)))) W := fun W => slt r (k + 1) (by omega) W
              have hql : (r.drop (k + 1)).length ≤ 140737488351232 := by simp; omega
              generalize r.drop (k + 1) = q at hq hql hans
              clear hfr hgo hled hk hk1
              by_cases hbad : k + 1 < 2 ∨ 10 < k + 1
              case pos =>
                rw [if_pos hbad] at hans
                have HA := Lib.hid hans
                have hbad' : decide ((k : Int) + 1 < 2) = true ∨ (decide ((k : Int) + 1 < 2) = false ∧ decide (10 < (k : Int) + 1) = true) := by
                  simp only [decide_eq_true_eq, decide_eq_false_iff_not]
                  omega
                clear hbad hans
                rcases hways with hg | ⟨hg, d, hyk, hd1 | ⟨hd1, hd2⟩⟩ <;> rcases hbad' with hx | ⟨hx, hx'⟩
                all_goals
                  go_wp2_with fail
                  go_ret2
                  exact ⟨by rw [HA.out]; rfl, HB.out⟩
              case neg =>
                rw [if_neg hbad] at hans
                have HA := Lib.hid hans
                have hbad1 : decide ((k : Int) + 1 < 2) = false := decide_eq_false (by omega)
                have hbad2 : decide (10 < (k : Int) + 1) = false := decide_eq_false (by omega)
                clear hbad hans
                rcases hways with hg | ⟨hg, d, hyk, hd1 | ⟨hd1, hd2⟩⟩
                all_goals
                  go_wp2_with fail
                  go_meet
                  exact ⟨q, rfl, hql, HA.out, rfl⟩
      case rest =>
        obtain ⟨q, rfl, hql, hans, hw3⟩ := hcut
        subst wc
        clear HANS y0 s6 hr1 hrl
        have hd := HD.out
        have e0 : wd.cell? ⟨w.heap.size, 0, none⟩ = some (.int .i64 n0) := Blk.cell hd 0
        have e1 : wd.cell? ⟨w.heap.size, 1, none⟩ = some (.int .i64 n1) := Blk.cell hd 1
        have e2 : wd.cell? ⟨w.heap.size, 2, none⟩ = some (.int .i64 n2) := Blk.cell hd 2
        have e3 : wd.cell? ⟨w.heap.size, 3, none⟩ = some (.int .i64 n3) := Blk.cell hd 3
        have e4 : wd.cell? ⟨w.heap.size, 4, none⟩ = some (.int .i64 n4) := Blk.cell hd 4
        have e5 : wd.cell? ⟨w.heap.size, 5, none⟩ = some (.int .i64 n5) := Blk.cell hd 5
        clear hd
        by_cases hz : q = [90] ∨ q = [122]
        case pos =>
          rw [show restR n0 n1 n2 n3 n4 n5 q = toldR n0 n1 n2 n3 n4 n5 0 from by unfold restR; rw [if_pos hz]] at hans
          have hz' : (q == [90]) = true ∨ ((q == [90]) = false ∧ (q == [122]) = true) := by
            rcases hz with hz | hz
            · exact .inl (by rw [hz]; rfl)
            · exact .inr ⟨by rw [hz]; rfl, by rw [hz]; rfl⟩
          have HA := Lib.hid hans
          clear hz hans
          rcases hz' with hz1 | ⟨hz1, hz2⟩
          all_goals
            go_wp2_with fail
            refine (rtold_any n0 n1 n2 n3 n4 n5 0 _ (by decide) (by decide)).mono ?_
            rintro e w1 ⟨rfl, b1⟩
            unfold isV
            go_wp2_with fail
            go_ret2
            exact ⟨by rw [HA.out]; rfl, HB.out.trans (b1.mono HB.out.size)⟩
        case neg =>
          have hz1 : (q == [90]) = false := by
            rw [Bool.eq_false_iff]; intro h; exact hz (.inl (by simpa using h))
          have hz2 : (q == [122]) = false := by
            rw [Bool.eq_false_iff]; intro h; exact hz (.inr (by simpa using h))
          by_cases h6 : q.length = 6
          case neg =>
            rw [show restR n0 n1 n2 n3 n4 n5 q = none from by unfold restR; rw [if_neg hz, if_neg (fun h => h6 h.1)]] at hans
            have b6 : ((q.length : Int) != 6) = true := by simp; omega
            have HA := Lib.hid hans
            clear hz h6 hans
            go_wp2_with fail
            go_ret2
            exact ⟨by rw [HA.out]; rfl, HB.out⟩
          case pos =>
            have b6 : (q.length : Int) = 6 := by omega
            have z3 : ∀ W, (Instr.index 9 (.string (str q)) (.int .i64 3)).run Tryd.prog W = .ok (.int .u8 (at0B q 3 : Int)) W := fun W => idx_at q 3 (by omega) W
            by_cases k3 : at0B q 3 = 58
            case neg =>
              rw [show restR n0 n1 n2 n3 n4 n5 q = none from by unfold restR; rw [if_neg hz, if_neg (fun h => k3 h.2)]] at hans
              have b3 : ((at0B q 3 : Int) != 58) = true := by simp; omega
              generalize at0B q 3 = d3 at z3 b3
              have HA := Lib.hid hans
              clear hz h6 k3 hans
              go_wp2_with fail
              go_ret2
              exact ⟨by rw [HA.out]; rfl, HB.out⟩
            case pos =>
              rw [k3] at z3
              have z0 : ∀ W, (Instr.index 9 (.string (str q)) (.int .i64 0)).run Tryd.prog W = .ok (.int .u8 (at0B q 0 : Int)) W := fun W => idx_at q 0 (by omega) W
              have v1 : ∀ W, (Instr.slice 9 (.string (str q)) (some (.int .i64 1)) (some (.int .i64 3)) none).run Tryd.prog W = .ok (.string (str ((q.drop 1).take 2))) W := fun W => slc q 1 3 (by omega) (by omega) W
              have v2 : ∀ W, (Instr.slice 9 (.string (str q)) (some (.int .i64 4)) none none).run Tryd.prog W = .ok (.string (str (q.drop 4))) W := fun W => slt q 4 (by omega) W
              have hzo := fun W => rzone_any (at0B q 0) ((q.drop 1).take 2) (q.drop 4) W (by simp; omega) (by simp; omega)
              have hbd : ∀ n, zoneR (at0B q 0) ((q.drop 1).take 2) (q.drop 4) = some n → -1000000 ≤ n ∧ n ≤ 1000000 := fun n h => zoneR_bd h
              have hres : restR n0 n1 n2 n3 n4 n5 q = match zoneR (at0B q 0) ((q.drop 1).take 2) (q.drop 4) with | some z => toldR n0 n1 n2 n3 n4 n5 z | none => none := by
                unfold restR; rw [if_neg hz, if_pos ⟨h6, k3⟩]
              rw [hres] at hans
              generalize zoneR (at0B q 0) ((q.drop 1).take 2) (q.drop 4) = o at hzo hbd hans
              generalize at0B q 0 = dz at z0 hzo
              generalize (q.drop 1).take 2 = l1 at v1 hzo
              generalize q.drop 4 = l2 at v2 hzo
              have HZ := Lib.hid hzo
              have HBD := Lib.hid hbd
              clear hzo hbd hres hz h6 k3
              cases o
              case none =>
                have HA : Hid (ans = none) := Lib.hid hans
                clear hans
                go_wp2_with fail
                refine up_start Nil (by kernel_rfl) ?_
                refine up_take (by exact at0) (by kernel_rfl) (by exact fun _ _ _ h => h) (by rfl) (by intro W hW; go_simp; try with_reducible rfl) ?_
                simp only [Act.put, List.setIfInBounds_toArray, List.set_cons_zero, List.set_cons_succ]
                refine up_take (by exact (atS at0)) (by kernel_rfl) (by exact fun _ _ _ h => h) (by rfl) (by intro W hW; go_simp; try with_reducible rfl) ?_
                simp only [Act.put, List.setIfInBounds_toArray, List.set_cons_zero, List.set_cons_succ]
                refine up_take (by exact (atS (atS at0))) (by kernel_rfl) (by exact fun _ _ _ h => h) (by rfl) (by intro W hW; go_simp; try with_reducible rfl) ?_
                simp only [Act.put, List.setIfInBounds_toArray, List.set_cons_zero, List.set_cons_succ]
                refine up_take (by exact (atS (atS (atS at0)))) (by kernel_rfl) (by exact fun _ _ _ h => h) (by rfl) (by intro W hW; go_simp; try with_reducible rfl) ?_
                simp only [Act.put, List.setIfInBounds_toArray, List.set_cons_zero, List.set_cons_succ]
                refine up_take (by exact (atS (atS (atS (atS at0))))) (by kernel_rfl) (by exact fun _ _ _ h => h) (by rfl) (by intro W hW; go_simp; try with_reducible rfl) ?_
                simp only [Act.put, List.setIfInBounds_toArray, List.set_cons_zero, List.set_cons_succ]
                refine up_take (by exact (atS (atS (atS (atS (atS at0)))))) (by kernel_rfl) (by exact fun _ _ _ h => h) (by rfl) (by intro W hW; go_simp; try with_reducible rfl) ?_
                simp only [Act.put, List.setIfInBounds_toArray, List.set_cons_zero, List.set_cons_succ]
                refine up_one (by exact (atS (atS (atS (atS (atS (atS at0))))))) (by kernel_rfl) (fun K hK => ?_)
                go_simp
                refine (HZ.out _).mono ?_
                rintro e w9 ⟨rfl, rfl⟩
                unfold isV
                refine hK.out _ _ (Kept.refl _ _) ?_
                clear hK K
                refine up_take (by exact (atS (atS (atS (atS (atS (atS (atS at0)))))))) (by kernel_rfl) (by exact fun _ _ _ h => h) (by rfl) (by intro W hW; go_simp; try with_reducible rfl) ?_
                simp only [Act.put, List.setIfInBounds_toArray, List.set_cons_zero, List.set_cons_succ]
                refine up_take (by exact (atS (atS (atS (atS (atS (atS (atS (atS at0))))))))) (by kernel_rfl) (by exact fun _ _ _ h => h) (by rfl) (by intro W hW; go_simp; try with_reducible rfl) ?_
                simp only [Act.put, List.setIfInBounds_toArray, List.set_cons_zero, List.set_cons_succ]
                refine up_take (by exact (atS (atS (atS (atS (atS (atS (atS (atS (atS at0)))))))))) (by kernel_rfl) (by exact fun _ _ _ h => h) (by rfl) (by intro W hW; go_simp; try with_reducible rfl) ?_
                simp only [Act.put, List.setIfInBounds_toArray, List.set_cons_zero, List.set_cons_succ]
                refine up_take (by exact (atS (atS (atS (atS (atS (atS (atS (atS (atS (atS at0))))))))))) (by kernel_rfl) (by exact fun _ _ _ h => h) (by rfl) (by intro W hW; go_simp; try with_reducible rfl) ?_
                simp only [Act.put, List.setIfInBounds_toArray, List.set_cons_zero, List.set_cons_succ]
                refine up_take (by exact (atS (atS (atS (atS (atS (atS (atS (atS (atS (atS (atS at0)))))))))))) (by kernel_rfl) (by exact fun _ _ _ h => h) (by rfl) (by intro W hW; go_simp; try with_reducible rfl) ?_
                simp only [Act.put, List.setIfInBounds_toArray, List.set_cons_zero, List.set_cons_succ]
                refine up_done (by kernel_rfl) ?_
                go_wp2_with fail
                go_ret2
                exact ⟨by rw [HA.out]; rfl, HB.out.drew⟩
              case some z =>
                have HA : Hid (ans = toldR n0 n1 n2 n3 n4 n5 z) := Lib.hid hans
                clear hans
                have hzb := HBD.out z rfl
                have ZB := Lib.hid hzb
                clear hzb
                go_wp2_with fail
                refine up_start Nil (by kernel_rfl) ?_
                refine up_take (by exact at0) (by kernel_rfl) (by exact fun _ _ _ h => h) (by rfl) (by intro W hW; go_simp; try with_reducible rfl) ?_
                simp only [Act.put, List.setIfInBounds_toArray, List.set_cons_zero, List.set_cons_succ]
                refine up_take (by exact (atS at0)) (by kernel_rfl) (by exact fun _ _ _ h => h) (by rfl) (by intro W hW; go_simp; try with_reducible rfl) ?_
                simp only [Act.put, List.setIfInBounds_toArray, List.set_cons_zero, List.set_cons_succ]
                refine up_take (by exact (atS (atS at0))) (by kernel_rfl) (by exact fun _ _ _ h => h) (by rfl) (by intro W hW; go_simp; try with_reducible rfl) ?_
                simp only [Act.put, List.setIfInBounds_toArray, List.set_cons_zero, List.set_cons_succ]
                refine up_take (by exact (atS (atS (atS at0)))) (by kernel_rfl) (by exact fun _ _ _ h => h) (by rfl) (by intro W hW; go_simp; try with_reducible rfl) ?_
                simp only [Act.put, List.setIfInBounds_toArray, List.set_cons_zero, List.set_cons_succ]
                refine up_take (by exact (atS (atS (atS (atS at0))))) (by kernel_rfl) (by exact fun _ _ _ h => h) (by rfl) (by intro W hW; go_simp; try with_reducible rfl) ?_
                simp only [Act.put, List.setIfInBounds_toArray, List.set_cons_zero, List.set_cons_succ]
                refine up_take (by exact (atS (atS (atS (atS (atS at0)))))) (by kernel_rfl) (by exact fun _ _ _ h => h) (by rfl) (by intro W hW; go_simp; try with_reducible rfl) ?_
                simp only [Act.put, List.setIfInBounds_toArray, List.set_cons_zero, List.set_cons_succ]
                refine up_one (by exact (atS (atS (atS (atS (atS (atS at0))))))) (by kernel_rfl) (fun K hK => ?_)
                go_simp
                refine (HZ.out _).mono ?_
                rintro e w9 ⟨rfl, rfl⟩
                unfold isV
                refine hK.out _ _ (Kept.refl _ _) ?_
                clear hK K
                refine up_take (by exact (atS (atS (atS (atS (atS (atS (atS at0)))))))) (by kernel_rfl) (by exact fun _ _ _ h => h) (by rfl) (by intro W hW; go_simp; try with_reducible rfl) ?_
                simp only [Act.put, List.setIfInBounds_toArray, List.set_cons_zero, List.set_cons_succ]
                refine up_take (by exact (atS (atS (atS (atS (atS (atS (atS (atS at0))))))))) (by kernel_rfl) (by exact fun _ _ _ h => h) (by rfl) (by intro W hW; go_simp; try with_reducible rfl) ?_
                simp only [Act.put, List.setIfInBounds_toArray, List.set_cons_zero, List.set_cons_succ]
                refine up_take (by exact (atS (atS (atS (atS (atS (atS (atS (atS (atS at0)))))))))) (by kernel_rfl) (by exact fun _ _ _ h => h) (by rfl) (by intro W hW; go_simp; try with_reducible rfl) ?_
                simp only [Act.put, List.setIfInBounds_toArray, List.set_cons_zero, List.set_cons_succ]
                refine up_take (by exact (atS (atS (atS (atS (atS (atS (atS (atS (atS (atS at0))))))))))) (by kernel_rfl) (by exact fun _ _ _ h => h) (by rfl) (by intro W hW; go_simp; try with_reducible rfl) ?_
                simp only [Act.put, List.setIfInBounds_toArray, List.set_cons_zero, List.set_cons_succ]
                refine up_take (by exact (atS (atS (atS (atS (atS (atS (atS (atS (atS (atS (atS at0)))))))))))) (by kernel_rfl) (by exact fun _ _ _ h => h) (by rfl) (by intro W hW; go_simp; try with_reducible rfl) ?_
                simp only [Act.put, List.setIfInBounds_toArray, List.set_cons_zero, List.set_cons_succ]
                refine up_done (by kernel_rfl) ?_
                go_wp2_with fail
                refine (rtold_any n0 n1 n2 n3 n4 n5 z _ ZB.out.1 ZB.out.2).mono ?_
                rintro e w1 ⟨rfl, b1⟩
                unfold isV
                go_wp2_with fail
                go_ret2
                exact ⟨by rw [HA.out]; rfl, HB.out.drew.trans (b1.mono (by have := HB.out.size; exact this))⟩

theorem rweb_any (l : List UInt8) (w : World) (hl : l.length ≤ 140737488351232) : Calls Tryd.prog 8 #[.string (str l)] w (Made w (isV (webR l))) := by
  by_cases hh : headR l
  · exact rweb_yes l w hl hh
  · have := rweb_no l w hh
    unfold webR
    rw [if_neg hh]
    exact this
end Go.Proofs.YtmimkcdomgoefabDoor
