/-
  The document's open: a tag that opens, its tokens in memory. Condition: at most a million bytes.
-/
import Derived.Test.YtelhdkidnhfnbaaDoorXRAttr
import Derived.Test.YtelhdkidnhfnbaaDoorMgd
namespace Go.Proofs.YtelhdkidnhfnbaaDoor
open Go.RowKit

theorem row_of_blk {w : World} {base b n size : Nat} {t : TypeId} {cs : Array Value} (h : Blk w b t cs) (hs : cs.size = n * size) (hb : base ≤ b) (hn : n ≤ maxLen) : w.ownsRow base t size (.slice (some ⟨b, 0, none⟩) n n) n cs.toList := by
  refine ⟨by rw [Array.length_toList]; exact hs, .inr ⟨b, n, cs, rfl, hb, h, Nat.le_refl _, hn, by rw [hs], ?_⟩⟩
  rw [List.take_of_length_le (by rw [Array.length_toList, hs]; exact Nat.le_refl _)]
def ROpenAns (w : World) (l : List UInt8) (e : Ending) (w' : World) : Prop :=
  ∃ v rest, e = .returned (.tuple #[v, .string (str rest), .bool (openV l).isSome]) ∧ Below w.heap.size w w' ∧
    ∀ L c r, openV l = some (L, c, r) → rest = r ∧ ∃ av, TokRow w' w.heap.size v (⟨1, (nameV l).1, L, av, []⟩ :: if c = true then [⟨2, (nameV l).1, [], .slice none 0 0, []⟩] else [])
def RNoRel (w1 : World) (_u6 : Value) (W : World) : Prop := W = w1
def ROpRel (w : World) (tb : Nat) (r0 name : List UInt8) (u6 : Value) (W : World) : Prop :=
  ∃ (n : Nat) (l : List UInt8) (L : AttrL) (v : Value), opnR n l L = opnR (r0.length + 1) r0 [] ∧ l.length < n ∧ l.length ≤ r0.length ∧ L.length ≤ 32 ∧ u6 = .string (str l) ∧ Blk W tb 36 #[.int .i64 1, .string (str name), v, .string ⟨#[]⟩] ∧
    W.ownsRow w.heap.size 39 2 v L.length (acells L) ∧ Below w.heap.size w W
def RDupRel (w : World) (tb ab : Nat) (name : List UInt8) (v : Value) (L : AttrL) (a : List UInt8 × List UInt8) (u : Value) (W : World) : Prop :=
  ∃ k : Nat, k ≤ L.length ∧ u = .int .i64 (k : Int) ∧ ((L.map (·.1)).take k).contains a.1 = false ∧ Blk W tb 36 #[.int .i64 1, .string (str name), v, .string ⟨#[]⟩] ∧ W.ownsRow w.heap.size 39 2 v L.length (acells L) ∧
    Blk W ab 39 #[.string (str a.1), .string (str a.2)] ∧ Below w.heap.size w W
def lenStr (u : Value) : Nat := match u with
  | .string s => s.size
  | _ => 0
theorem drewb2 {w W : World} {n : Nat} (h : Below n w W) : Below n w W.drew := ⟨h.os, h.tape, h.output, h.size, h.block⟩
theorem lenStr_str (l : List UInt8) : lenStr (.string (str l)) = l.length := str_size l
theorem opnR_a {n : Nat} {l : List UInt8} {L : AttrL} (h : hasB (dropB l) [62] = true) : opnR (n + 1) l L = some (L, false, (dropB l).drop 1) := by rw [opnR, if_pos h]
theorem opnR_b {n : Nat} {l : List UInt8} {L : AttrL} (h1 : hasB (dropB l) [62] = false) (h : hasB (dropB l) [47, 62] = true) : opnR (n + 1) l L = some (L, true, (dropB l).drop 2) := by rw [opnR, h1, if_neg Bool.false_ne_true, if_pos h]
theorem opnR_c {n : Nat} {l : List UInt8} {L : AttrL} (h1 : hasB (dropB l) [62] = false) (h2 : hasB (dropB l) [47, 62] = false) (h : (dropB l).length = l.length) : opnR (n + 1) l L = none := by
  rw [opnR, h1, h2, if_neg Bool.false_ne_true, if_neg Bool.false_ne_true, if_pos h]
theorem opnR_d {n : Nat} {l : List UInt8} {L : AttrL} (h1 : hasB (dropB l) [62] = false) (h2 : hasB (dropB l) [47, 62] = false) (h3 : ¬ (dropB l).length = l.length) (h : attrV (dropB l) = none) : opnR (n + 1) l L = none := by
  rw [opnR, h1, h2, if_neg Bool.false_ne_true, if_neg Bool.false_ne_true, if_neg h3, h]
theorem opnR_e {n : Nat} {l r : List UInt8} {a : List UInt8 × List UInt8} {L : AttrL} (h1 : hasB (dropB l) [62] = false) (h2 : hasB (dropB l) [47, 62] = false) (h3 : ¬ (dropB l).length = l.length) (h : attrV (dropB l) = some (a, r)) (hc : 32 ≤ L.length ∨ (L.map (·.1)).contains a.1 = true) : opnR (n + 1) l L = none := by
  rw [opnR, h1, h2, if_neg Bool.false_ne_true, if_neg Bool.false_ne_true, if_neg h3, h]
  exact if_pos hc
theorem opnR_f {n : Nat} {l r : List UInt8} {a : List UInt8 × List UInt8} {L : AttrL} (h1 : hasB (dropB l) [62] = false) (h2 : hasB (dropB l) [47, 62] = false) (h3 : ¬ (dropB l).length = l.length) (h : attrV (dropB l) = some (a, r)) (hc : ¬ (32 ≤ L.length ∨ (L.map (·.1)).contains a.1 = true)) : opnR (n + 1) l L = opnR n r (L ++ [a]) := by
  rw [opnR, h1, h2, if_neg Bool.false_ne_true, if_neg Bool.false_ne_true, if_neg h3, h]
  exact if_neg hc
theorem attrV_len {l r : List UInt8} {a : List UInt8 × List UInt8} (h : attrV l = some (a, r)) : r.length < l.length := by
  rw [attr_eq] at h
  split at h
  · rename_i hc
    rw [Bool.and_eq_true] at hc
    have := (attrX_yes hc.2).1
    injection h with h
    injection h with _ h
    rw [← h]; exact this
  · cases h
theorem openV_is {l : List UInt8} (h : (nameV l).1 ≠ []) : openV l = opnR ((nameV l).2.length + 1) (nameV l).2 [] := by unfold openV; rw [if_neg h]
theorem take_contains {l : List (List UInt8)} {k : Nat} {x : List UInt8} (hk : k < l.length) (h : (l.take k).contains x = false) (hx : ¬ l[k] = x) : (l.take (k + 1)).contains x = false := by
  rw [List.take_succ_eq_append_getElem hk]
  have e : (x == l[k]) = false := by simpa using fun e : x = l[k] => hx e.symm
  rw [List.contains_eq_any_beq] at h ⊢
  rw [List.any_append, h]
  simp [e]
theorem take_has {l : List (List UInt8)} {k : Nat} {x : List UInt8} (hk : k < l.length) (hx : l[k] = x) : l.contains x = true := by
  rw [List.contains_eq_any_beq, List.any_eq_true]
  exact ⟨l[k], List.getElem_mem hk, by rw [hx]; simp⟩
set_option maxHeartbeats 12800000 in
set_option maxRecDepth 100000 in
theorem ropen_nil (l : List UInt8) (w : World) (hl : l.length ≤ 1000000) (h0 : (nameV l).1 = []) : Calls Tryd.prog 50 #[.string (str l)] w (ROpenAns w l) := by
  have HX : Hid (openV l = none) := Lib.hid (by unfold openV; rw [if_pos h0])
  have HL := Lib.hid hl
  obtain ⟨⟨nm, r0⟩, hn⟩ : ∃ x, x = nameV l := ⟨_, rfl⟩
  have HN := Lib.hid hn
  have hn0 : nm = [] := by rw [← hn] at h0; exact h0
  subst hn0
  clear hn h0 hl
  go_enter Tryd.func50, Tryd.ntmps50
  go_wp2_with (go_at_call 30; have kn := rname_any l w (by have := HL.out; unfold maxLen; omega); rw [← HN.out] at kn; refine kn.mono ?_; rintro e w1 ⟨rfl, hb1⟩; have HB1 := Lib.hid hb1; clear kn hb1)
  go_loopw [6] (RNoRel (w1.alloc (.cells #[.int .i64 1, .string (str []), .slice none 0 0, .string ⟨#[]⟩] 36))) (fun _ _ => 0)
  case atStart => exact rfl
  case round =>
    have hrel2 : wr = _ := hrel
    subst hrel2
    go_wp2_with fail
    go_ret3
    exact ⟨.slice none 0 0, [], by rw [HX.out]; rfl, HB1.out.alloc HB1.out.size _, fun L c r h => by rw [HX.out] at h; cases h⟩
set_option maxHeartbeats 25600000 in
set_option maxRecDepth 100000 in
theorem ropen_go (l : List UInt8) (w : World) (hl : l.length ≤ 1000000) (h0 : (nameV l).1 ≠ []) : Calls Tryd.prog 50 #[.string (str l)] w (ROpenAns w l) := by
  have HOV := Lib.hid (openV_is h0)
  have HL := Lib.hid hl
  have HNL := Lib.hid (nameV_len l)
  obtain ⟨⟨nm, r0⟩, hn⟩ : ∃ x, x = nameV l := ⟨_, rfl⟩
  have HN := Lib.hid hn
  have hn0 : nm ≠ [] := by rw [← hn] at h0; exact h0
  have e1 : (nm == ([] : List UInt8)) = false := by simpa using hn0
  have e2 : (([] : List UInt8) == nm) = false := by cases nm with
    | nil => exact absurd rfl hn0
    | cons a b => rfl
  have HOR : Hid (openV l = opnR (r0.length + 1) r0 []) := Lib.hid (by rw [HOV.out, ← hn])
  have HRL : Hid (r0.length ≤ l.length) := Lib.hid (by have h := HNL.out.2; rw [← hn] at h; exact h)
  clear hn h0 hl hn0 HOV
  go_enter Tryd.func50, Tryd.ntmps50
  go_wp2_with (go_at_call 30; have kn := rname_any l w (by have := HL.out; unfold maxLen; omega); rw [← HN.out] at kn; refine kn.mono ?_; rintro e w1 ⟨rfl, hb1⟩; have HB1 := Lib.hid hb1; clear kn hb1)
  have HB0 : Hid (Below w.heap.size w (w1.alloc (.cells #[.int .i64 1, .string (str nm), .slice none 0 0, .string ⟨#[]⟩] 36))) := Lib.hid (HB1.out.alloc HB1.out.size _)
  obtain ⟨tb, htb⟩ : ∃ tb, tb = w1.heap.size := ⟨_, rfl⟩
  have HTB : Hid (w.heap.size ≤ tb) := Lib.hid (by rw [htb]; exact HB1.out.size)
  have BT0 : Hid (Blk (w1.alloc (.cells #[.int .i64 1, .string (str nm), .slice none 0 0, .string ⟨#[]⟩] 36)) tb 36 #[.int .i64 1, .string (str nm), .slice none 0 0, .string ⟨#[]⟩]) := Lib.hid (by rw [htb]; exact Blk.fresh _ _ _)
  rw [← htb]
  clear htb
  go_loopw [6] (ROpRel w tb r0 nm) (fun u _ => lenStr u)
  case atStart => exact ⟨r0.length + 1, r0, [], .slice none 0 0, rfl, Nat.lt_succ_self _, Nat.le_refl _, Nat.zero_le _, rfl, BT0.out, World.ownsRow_nil _ _ _ _, HB0.out⟩
  case round =>
    obtain ⟨n, lr, L, v, hop, hln, hls, hl32, rfl, hbt, har, hbw⟩ := hrel
    obtain ⟨m, hm⟩ := opnF_shift hln
    subst hm
    obtain ⟨A, c, hv, _⟩ := ownsRow_shape har
    obtain ⟨N, hN⟩ : ∃ N, N = L.length := ⟨_, rfl⟩
    rw [← hN] at hv har
    subst hv
    have HN2 := Lib.hid hN
    have BT := Lib.hid hbt
    have AR := Lib.hid har
    have HBW := Lib.hid hbw
    have HOP := Lib.hid hop
    have HLN := Lib.hid hln
    have HLS := Lib.hid hls
    have H32 := Lib.hid hl32
    have HARV : Hid (∀ {b : Nat} (W : World), W.ownsRow b 39 2 (.slice A N c) N (acells L) → W.ownsRow b 39 2 (.slice A N c) L.length (acells L)) := Lib.hid fun W h => by rw [← HN2.out]; exact h
    obtain ⟨d, hd⟩ : ∃ d, d = dropB lr := ⟨_, rfl⟩
    have HD := Lib.hid hd
    have HDL : Hid (d.length ≤ 1000000) := Lib.hid (by rw [hd]; have := dropB_len lr; have := HLS.out; have := HRL.out; have := HL.out; omega)
    have HDL2 : Hid (d.length ≤ lr.length) := Lib.hid (by rw [hd]; exact dropB_len lr)
    clear hop hln hls hl32 hbt har hbw hN
    cases h62 : hasB d [62] with
    | true =>
      have H62 := Lib.hid h62
      have HX : Hid (openV l = some (L, false, d.drop 1)) := Lib.hid (by rw [HOR.out, ← HOP.out, opnR_a (by rw [← hd]; exact h62), ← hd])
      have hdl : 1 ≤ d.length := hasB_len h62
      have s1 : ∀ W, (Instr.slice 9 (.string (str d)) (some (.int .i64 1)) none none).run Tryd.prog W = .ok (.string (str (d.drop 1))) W := fun W => slt d 1 hdl W
      obtain ⟨d1, hd1⟩ : ∃ d1, d1 = d.drop 1 := ⟨_, rfl⟩
      rw [← hd1] at s1
      have HD1 := Lib.hid hd1
      have z0 : wr.cell? ⟨tb, 0, none⟩ = some (.int .i64 1) := BT.out.cell 0; have z1 : wr.cell? ⟨tb, 1, none⟩ = some (.string (str nm)) := BT.out.cell 1; have z2 : wr.cell? ⟨tb, 2, none⟩ = some (.slice A N c) := BT.out.cell 2; have z3 : wr.cell? ⟨tb, 3, none⟩ = some (.string ⟨#[]⟩) := BT.out.cell 3
      clear h62 hd hd1 hdl
      go_wp2_with (first | (go_at_call 49; have kb := rblanks_any lr wr (by have := HLS.out; have := HRL.out; have := HL.out; omega); rw [← HD.out] at kb; refine kb.mono ?_; rintro e wb ⟨rfl, rfl⟩; clear kb) | (go_at_call 47; have kh := rhas_any d [62] wr; rw [H62.out] at kh; refine kh.mono ?_; rintro e wh ⟨rfl, rfl⟩; clear kh; have HMA : Hid True := Lib.hid trivial))
      refine up_start (fun k => k = 0 ∨ 0 ≤ k) (by kernel_rfl) ?_
      refine up_take (by exact (atS (atS at0))) (by kernel_rfl) (by exact fun _ _ _ h => h) (by rfl) (by intro W hW; go_simp; try with_reducible rfl) ?_
      simp only [Act.put, List.setIfInBounds_toArray, List.set_cons_zero, List.set_cons_succ]
      refine up_take (by exact (atS (atS (atS at0)))) (by kernel_rfl) (by exact fun _ _ _ h => h) (by rfl) (by intro W hW; go_simp; try with_reducible rfl) ?_
      simp only [Act.put, List.setIfInBounds_toArray, List.set_cons_zero, List.set_cons_succ]
      refine up_one (by exact at0) (by kernel_rfl) (fun K hK => ?_)
      go_simp
      refine hK.out _ _ (Kept.refl _ _) ?_
      clear hK K
      refine up_one (by exact (atS at0)) (by kernel_rfl) (fun K hK => ?_)
      go_simp
      refine hK.out _ _ (Kept.belowB ((Below.refl _ _).alloc (Nat.le_refl _) _) (fun k _ => .inr (Nat.zero_le k))) ?_
      clear hK K
      refine up_take (by exact (atS (atS (atS (atS at0))))) (by kernel_rfl) (by exact fun _ _ _ h => h) (by rfl) (by intro W hW; go_simp; try with_reducible rfl) ?_
      simp only [Act.put, List.setIfInBounds_toArray, List.set_cons_zero, List.set_cons_succ]
      refine up_take (by exact (atS (atS (atS (atS (atS at0)))))) (by kernel_rfl) (by exact fun _ _ _ h => h) (by rfl) (by intro W hW; go_simp; try with_reducible rfl) ?_
      simp only [Act.put, List.setIfInBounds_toArray, List.set_cons_zero, List.set_cons_succ]
      refine up_take (by exact (atS (atS (atS (atS (atS (atS at0))))))) (by kernel_rfl) (by exact fun _ _ _ h => h) (by rfl) (by intro W hW; go_simp; try with_reducible rfl) ?_
      simp only [Act.put, List.setIfInBounds_toArray, List.set_cons_zero, List.set_cons_succ]
      refine up_done (by kernel_rfl) ?_
      clear z0 z1 z2 z3
      go_wp2_with fail
      go_ret3
      have hbf : Below wr.heap.size wr (wr.alloc (.cells #[.int .i64 1, .string (str nm), .slice A N c, .string ⟨#[]⟩] 36)) := (Below.refl _ _).alloc (Nat.le_refl _) _
      have hbx : Blk (wr.alloc (.cells #[.int .i64 1, .string (str nm), .slice A N c, .string ⟨#[]⟩] 36)) wr.heap.size 36 #[.int .i64 1, .string (str nm), .slice A N c, .string ⟨#[]⟩] := Blk.fresh _ _ _
      refine ⟨.slice (some ⟨wr.heap.size, 0, none⟩) 1 1, d1, by rw [HX.out]; rfl, drewb2 (below_then HBW.out hbf), fun L' c' r' h => ?_⟩
      rw [HX.out] at h; injection h with h; injection h with h1 h; injection h with h2 h3; subst h1 h2 h3
      rw [← HN.out]
      refine ⟨HD1.out, .slice A N c, row_of_blk (Blk.drew hbx) rfl HBW.out.size (by unfold maxLen; omega), fun e he => ?_⟩
      have har : AttrRow (wr.alloc (.cells #[.int .i64 1, .string (str nm), .slice A N c, .string ⟨#[]⟩] 36)) w.heap.size ⟨1, nm, L, .slice A N c, []⟩ := HARV.out _ (ownsRow_blk AR.out fun k hk => hbf.block k (World.ownsRow.lt AR.out k hk).2)
      rw [List.mem_singleton.1 he]
      exact har
    | false =>
      have H62 := Lib.hid h62
      cases h47 : hasB d [47, 62] with
      | true =>
        have H47 := Lib.hid h47
        have HX : Hid (openV l = some (L, true, d.drop 2)) := Lib.hid (by rw [HOR.out, ← HOP.out, opnR_b (by rw [← hd]; exact h62) (by rw [← hd]; exact h47), ← hd])
        have hdl : 2 ≤ d.length := hasB_len h47
        have s1 : ∀ W, (Instr.slice 9 (.string (str d)) (some (.int .i64 2)) none none).run Tryd.prog W = .ok (.string (str (d.drop 2))) W := fun W => slt d 2 hdl W
        obtain ⟨d1, hd1⟩ : ∃ d1, d1 = d.drop 2 := ⟨_, rfl⟩
        rw [← hd1] at s1
        have HD1 := Lib.hid hd1
        have z0 : wr.cell? ⟨tb, 0, none⟩ = some (.int .i64 1) := BT.out.cell 0; have z1 : wr.cell? ⟨tb, 1, none⟩ = some (.string (str nm)) := BT.out.cell 1; have z2 : wr.cell? ⟨tb, 2, none⟩ = some (.slice A N c) := BT.out.cell 2; have z3 : wr.cell? ⟨tb, 3, none⟩ = some (.string ⟨#[]⟩) := BT.out.cell 3
        clear h62 h47 hd hd1 hdl
        go_wp2_with (first | (go_at_call 49; have kb := rblanks_any lr wr (by have := HLS.out; have := HRL.out; have := HL.out; omega); rw [← HD.out] at kb; refine kb.mono ?_; rintro e wb ⟨rfl, rfl⟩; clear kb) | (go_at_call 47; have hma := HMA.out; clear hma; have kh := rhas_any d [47, 62] wr; rw [H47.out] at kh; refine kh.mono ?_; rintro e wh ⟨rfl, rfl⟩; clear kh) | (go_at_call 47; have kh := rhas_any d [62] wr; rw [H62.out] at kh; refine kh.mono ?_; rintro e wh ⟨rfl, rfl⟩; clear kh; have HMA : Hid True := Lib.hid trivial))
        refine up_start (fun k => k = 0 ∨ 0 ≤ k) (by kernel_rfl) ?_
        refine up_take (by exact (atS at0)) (by kernel_rfl) (by exact fun _ _ _ h => h) (by rfl) (by intro W hW; go_simp; try with_reducible rfl) ?_
        simp only [Act.put, List.setIfInBounds_toArray, List.set_cons_zero, List.set_cons_succ]
        refine up_take (by exact (atS (atS at0))) (by kernel_rfl) (by exact fun _ _ _ h => h) (by rfl) (by intro W hW; go_simp; try with_reducible rfl) ?_
        simp only [Act.put, List.setIfInBounds_toArray, List.set_cons_zero, List.set_cons_succ]
        refine up_take (by exact (atS (atS (atS (atS at0))))) (by kernel_rfl) (by exact fun _ _ _ h => h) (by rfl) (by intro W hW; go_simp; try with_reducible rfl) ?_
        simp only [Act.put, List.setIfInBounds_toArray, List.set_cons_zero, List.set_cons_succ]
        refine up_take (by exact (atS (atS (atS (atS (atS at0)))))) (by kernel_rfl) (by exact fun _ _ _ h => h) (by rfl) (by intro W hW; go_simp; try with_reducible rfl) ?_
        simp only [Act.put, List.setIfInBounds_toArray, List.set_cons_zero, List.set_cons_succ]
        refine up_one (by exact at0) (by kernel_rfl) (fun K hK => ?_)
        go_simp
        refine hK.out _ _ (Kept.refl _ _) ?_
        clear hK K
        refine up_one (by exact (atS (atS (atS at0)))) (by kernel_rfl) (fun K hK => ?_)
        go_simp
        refine hK.out _ _ (Kept.belowB ((Below.refl _ _).alloc (Nat.le_refl _) _) (fun k _ => .inr (Nat.zero_le k))) ?_
        clear hK K
        refine up_take (by exact (atS (atS (atS (atS (atS (atS at0))))))) (by kernel_rfl) (by exact fun _ _ _ h => h) (by rfl) (by intro W hW; go_simp; try with_reducible rfl) ?_
        simp only [Act.put, List.setIfInBounds_toArray, List.set_cons_zero, List.set_cons_succ]
        refine up_take (by exact (atS (atS (atS (atS (atS (atS (atS at0)))))))) (by kernel_rfl) (by exact fun _ _ _ h => h) (by rfl) (by intro W hW; go_simp; try with_reducible rfl) ?_
        simp only [Act.put, List.setIfInBounds_toArray, List.set_cons_zero, List.set_cons_succ]
        refine up_take (by exact (atS (atS (atS (atS (atS (atS (atS (atS at0))))))))) (by kernel_rfl) (by exact fun _ _ _ h => h) (by rfl) (by intro W hW; go_simp; try with_reducible rfl) ?_
        simp only [Act.put, List.setIfInBounds_toArray, List.set_cons_zero, List.set_cons_succ]
        refine up_done (by kernel_rfl) ?_
        clear z0 z1 z2 z3
        go_wp2_with fail
        go_ret3
        have hbf : Below wr.heap.size wr (wr.alloc (.cells #[.int .i64 1, .string (str nm), .slice A N c, .string ⟨#[]⟩, .int .i64 2, .string (str nm), .slice none 0 0, .string ⟨#[]⟩] 36)) := (Below.refl _ _).alloc (Nat.le_refl _) _
        have hbx : Blk (wr.alloc (.cells #[.int .i64 1, .string (str nm), .slice A N c, .string ⟨#[]⟩, .int .i64 2, .string (str nm), .slice none 0 0, .string ⟨#[]⟩] 36)) wr.heap.size 36 #[.int .i64 1, .string (str nm), .slice A N c, .string ⟨#[]⟩, .int .i64 2, .string (str nm), .slice none 0 0, .string ⟨#[]⟩] := Blk.fresh _ _ _
        refine ⟨.slice (some ⟨wr.heap.size, 0, none⟩) 2 2, d1, by rw [HX.out]; rfl, drewb2 (below_then HBW.out hbf), fun L' c' r' h => ?_⟩
        rw [HX.out] at h; injection h with h; injection h with h1 h; injection h with h2 h3; subst h1 h2 h3
        rw [← HN.out]
        refine ⟨HD1.out, .slice A N c, row_of_blk (Blk.drew hbx) rfl HBW.out.size (by unfold maxLen; omega), fun e he => ?_⟩
        have har : AttrRow (wr.alloc (.cells #[.int .i64 1, .string (str nm), .slice A N c, .string ⟨#[]⟩, .int .i64 2, .string (str nm), .slice none 0 0, .string ⟨#[]⟩] 36)) w.heap.size ⟨1, nm, L, .slice A N c, []⟩ := HARV.out _ (ownsRow_blk AR.out fun k hk => hbf.block k (World.ownsRow.lt AR.out k hk).2)
        rcases List.mem_cons.1 he with he | he
        · rw [he]; exact har
        · rw [List.mem_singleton.1 he]; exact World.ownsRow_nil _ _ _ _
      | false =>
        have H47 := Lib.hid h47
        by_cases hle : d.length = lr.length
        · have HX : Hid (openV l = none) := Lib.hid (by rw [HOR.out, ← HOP.out, opnR_c (by rw [← hd]; exact h62) (by rw [← hd]; exact h47) (by rw [← hd]; exact hle)])
          clear h62 h47 hd
          go_wp2_with (first | (go_at_call 49; have kb := rblanks_any lr wr (by have := HLS.out; have := HRL.out; have := HL.out; omega); rw [← HD.out] at kb; refine kb.mono ?_; rintro e wb ⟨rfl, rfl⟩; clear kb) | (go_at_call 47; have hma := HMA.out; clear hma; have kh := rhas_any d [47, 62] wr; rw [H47.out] at kh; refine kh.mono ?_; rintro e wh ⟨rfl, rfl⟩; clear kh) | (go_at_call 47; have kh := rhas_any d [62] wr; rw [H62.out] at kh; refine kh.mono ?_; rintro e wh ⟨rfl, rfl⟩; clear kh; have HMA : Hid True := Lib.hid trivial))
          go_ret3
          exact ⟨.slice none 0 0, [], by rw [HX.out]; rfl, HBW.out, fun L c r h => by rw [HX.out] at h; cases h⟩
        · have hleI : ((d.length : Int) == (lr.length : Int)) = false := by simpa using (by omega : ¬ (d.length : Int) = (lr.length : Int))
          have HLE := Lib.hid hle
          cases hav : attrV d with
          | none =>
            have HX : Hid (openV l = none) := Lib.hid (by rw [HOR.out, ← HOP.out, opnR_d (by rw [← hd]; exact h62) (by rw [← hd]; exact h47) (by rw [← hd]; exact hle) (by rw [← hd]; exact hav)])
            have HRES := Lib.hid (res_bad hav)
            clear h62 h47 hd hav
            go_wp2_with (first | (go_at_call 49; have kb := rblanks_any lr wr (by have := HLS.out; have := HRL.out; have := HL.out; omega); rw [← HD.out] at kb; refine kb.mono ?_; rintro e wb ⟨rfl, rfl⟩; clear kb) | (go_at_call 47; have hma := HMA.out; clear hma; have kh := rhas_any d [47, 62] wr; rw [H47.out] at kh; refine kh.mono ?_; rintro e wh ⟨rfl, rfl⟩; clear kh) | (go_at_call 47; have kh := rhas_any d [62] wr; rw [H62.out] at kh; refine kh.mono ?_; rintro e wh ⟨rfl, rfl⟩; clear kh; have HMA : Hid True := Lib.hid trivial) | (go_at_call 69; have ka := rattr_any d wr (by have := HDL.out; omega); unfold MadeR at ka; rw [HRES.out] at ka; refine ka.mono ?_; rintro e w2 ⟨rfl, hb2⟩; have HB2 := Lib.hid (below_then HBW.out hb2); clear ka hb2))
            go_ret3
            exact ⟨.slice none 0 0, [], by rw [HX.out]; rfl, (HB2.out.alloc HB2.out.size _), fun L c r h => by rw [HX.out] at h; cases h⟩
          | some q =>
            obtain ⟨⟨am, av⟩, rb⟩ := q
            have HRES : Hid (attrRes d = ((am, av), rb, true)) := Lib.hid (res_ok hav)
            have HRBL : Hid (rb.length < lr.length) := Lib.hid (Nat.lt_of_lt_of_le (attrV_len hav) HDL2.out)
            by_cases hbig : (32 : Int) ≤ (N : Int)
            · have HX : Hid (openV l = none) := Lib.hid (by rw [HOR.out, ← HOP.out, opnR_e (by rw [← hd]; exact h62) (by rw [← hd]; exact h47) (by rw [← hd]; exact hle) (by rw [← hd]; exact hav) (.inl (by have := HN2.out; omega))])
              clear h62 h47 hd hav
              go_wp2_with (first | (go_at_call 49; have kb := rblanks_any lr wr (by have := HLS.out; have := HRL.out; have := HL.out; omega); rw [← HD.out] at kb; refine kb.mono ?_; rintro e wb ⟨rfl, rfl⟩; clear kb) | (go_at_call 47; have hma := HMA.out; clear hma; have kh := rhas_any d [47, 62] wr; rw [H47.out] at kh; refine kh.mono ?_; rintro e wh ⟨rfl, rfl⟩; clear kh) | (go_at_call 47; have kh := rhas_any d [62] wr; rw [H62.out] at kh; refine kh.mono ?_; rintro e wh ⟨rfl, rfl⟩; clear kh; have HMA : Hid True := Lib.hid trivial) | (go_at_call 69; have ka := rattr_any d wr (by have := HDL.out; omega); unfold MadeR at ka; rw [HRES.out] at ka; refine ka.mono ?_; rintro e w2 ⟨rfl, hb2⟩; have HB2 := Lib.hid (below_then HBW.out hb2); have hbx : Below wr.heap.size wr (w2.alloc (.cells #[.string (str am), .string (str av)] 39)) := hb2.alloc hb2.size _; have BT3 : Hid (Blk (w2.alloc (.cells #[.string (str am), .string (str av)] 39)) tb 36 #[.int .i64 1, .string (str nm), .slice A N c, .string ⟨#[]⟩]) := Lib.hid (BT.out.below hbx BT.out.lt); have AR3 : Hid ((w2.alloc (.cells #[.string (str am), .string (str av)] 39)).ownsRow w.heap.size 39 2 (.slice A N c) N (acells L)) := Lib.hid (ownsRow_blk AR.out fun k hk => hbx.block k (World.ownsRow.lt AR.out k hk).2); have BA3 : Hid (Blk (w2.alloc (.cells #[.string (str am), .string (str av)] 39)) w2.heap.size 39 #[.string (str am), .string (str av)]) := Lib.hid (Blk.fresh _ _ _); have HB3 : Hid (Below w.heap.size w (w2.alloc (.cells #[.string (str am), .string (str av)] 39))) := Lib.hid (HB2.out.alloc HB2.out.size _); have x3 : (w2.alloc (.cells #[.string (str am), .string (str av)] 39)).cell? ⟨tb, 2, none⟩ = some (.slice A N c) := BT3.out.cell 2; clear ka hb2 hbx))
              go_ret3
              exact ⟨.slice none 0 0, [], by rw [HX.out]; rfl, HB3.out, fun L c r h => by rw [HX.out] at h; cases h⟩
            · have HNB : Hid (N < 32) := Lib.hid (by omega)
              have HOE : Hid ((L.map (·.1)).contains am = true → openV l = none) := Lib.hid fun hc => by rw [HOR.out, ← HOP.out, opnR_e (by rw [← hd]; exact h62) (by rw [← hd]; exact h47) (by rw [← hd]; exact hle) (by rw [← hd]; exact hav) (.inr hc)]
              have HOF : Hid ((L.map (·.1)).contains am = false → opnR m rb (L ++ [(am, av)]) = opnR (r0.length + 1) r0 []) := Lib.hid fun hc => by
                rw [← HOP.out, opnR_f (by rw [← hd]; exact h62) (by rw [← hd]; exact h47) (by rw [← hd]; exact hle) (by rw [← hd]; exact hav)]
                rintro (h | h)
                · have := HN2.out; have := HNB.out; omega
                · rw [hc] at h; cases h
              clear h62 h47 hd hav
              go_wp2_with (first | (go_at_call 49; have kb := rblanks_any lr wr (by have := HLS.out; have := HRL.out; have := HL.out; omega); rw [← HD.out] at kb; refine kb.mono ?_; rintro e wb ⟨rfl, rfl⟩; clear kb) | (go_at_call 47; have hma := HMA.out; clear hma; have kh := rhas_any d [47, 62] wr; rw [H47.out] at kh; refine kh.mono ?_; rintro e wh ⟨rfl, rfl⟩; clear kh) | (go_at_call 47; have kh := rhas_any d [62] wr; rw [H62.out] at kh; refine kh.mono ?_; rintro e wh ⟨rfl, rfl⟩; clear kh; have HMA : Hid True := Lib.hid trivial) | (go_at_call 69; have ka := rattr_any d wr (by have := HDL.out; omega); unfold MadeR at ka; rw [HRES.out] at ka; refine ka.mono ?_; rintro e w2 ⟨rfl, hb2⟩; have HB2 := Lib.hid (below_then HBW.out hb2); have hbx : Below wr.heap.size wr (w2.alloc (.cells #[.string (str am), .string (str av)] 39)) := hb2.alloc hb2.size _; have BT3 : Hid (Blk (w2.alloc (.cells #[.string (str am), .string (str av)] 39)) tb 36 #[.int .i64 1, .string (str nm), .slice A N c, .string ⟨#[]⟩]) := Lib.hid (BT.out.below hbx BT.out.lt); have AR3 : Hid ((w2.alloc (.cells #[.string (str am), .string (str av)] 39)).ownsRow w.heap.size 39 2 (.slice A N c) N (acells L)) := Lib.hid (ownsRow_blk AR.out fun k hk => hbx.block k (World.ownsRow.lt AR.out k hk).2); have BA3 : Hid (Blk (w2.alloc (.cells #[.string (str am), .string (str av)] 39)) w2.heap.size 39 #[.string (str am), .string (str av)]) := Lib.hid (Blk.fresh _ _ _); have HB3 : Hid (Below w.heap.size w (w2.alloc (.cells #[.string (str am), .string (str av)] 39))) := Lib.hid (HB2.out.alloc HB2.out.size _); have x3 : (w2.alloc (.cells #[.string (str am), .string (str av)] 39)).cell? ⟨tb, 2, none⟩ = some (.slice A N c) := BT3.out.cell 2; clear ka hb2 hbx))
              obtain ⟨ab, hab⟩ : ∃ ab, ab = w2.heap.size := ⟨_, rfl⟩
              have HST : Hid (RDupRel w tb ab nm (.slice A N c) L (am, av) (.int .i64 0) (w2.alloc (.cells #[.string (str am), .string (str av)] 39))) := Lib.hid ⟨0, Nat.zero_le _, rfl, rfl, BT3.out, HARV.out _ AR3.out, by rw [hab]; exact BA3.out, HB3.out⟩
              have HABW : Hid (w.heap.size ≤ ab) := Lib.hid (by rw [hab]; exact HB2.out.size)
              have HME : Hid (lenStr (.string (str rb)) < lenStr (.string (str lr))) := Lib.hid (by rw [lenStr_str, lenStr_str]; exact HRBL.out)
              rw [← hab]
              clear x3 hab hbig
              go_loopw [12] (RDupRel w tb ab nm (.slice A N c) L (am, av)) (fun u _ => L.length - (intOf u).toNat)
              case atStart => exact HST.out
              case round =>
                obtain ⟨k, hk, rfl, hct, hbt, har, hba, hbw⟩ := hrel
                have BTk := Lib.hid hbt
                have BAk := Lib.hid hba
                have HBk := Lib.hid hbw
                have HCT := Lib.hid hct
                have ARk : Hid (wr.ownsRow w.heap.size 39 2 (.slice A N c) N (acells L)) := Lib.hid (by have h := har; rw [← HN2.out] at h; exact h)
                have x2 : wr.cell? ⟨tb, 2, none⟩ = some (.slice A N c) := BTk.out.cell 2
                clear hct hbt har hba hbw
                rw [← HN2.out] at hk
                by_cases hkN : k < N
                · have hkI : (k : Int) < (N : Int) := by omega
                  have hkL : k < L.length := by have := HN2.out; omega
                  obtain ⟨A', c', hv', hA'⟩ := srcA_row (HARV.out _ ARk.out)
                  obtain ⟨b, o, rfl, hbl, hc⟩ : ∃ b o, A = some ⟨b, o, none⟩ ∧ b < wr.heap.size ∧ ∀ j u, (acells L)[j]? = some u → wr.cell? ⟨b, o + j, none⟩ = some u := by
                    injection hv' with e1 _ _
                    rw [e1]
                    exact hA' (by omega)
                  have xk : wr.cell? ⟨b, o + k * 2, none⟩ = some (.string (str L[k].1)) := by rw [Nat.mul_comm]; exact hc _ _ (acells_at L k hkL).1
                  have xa : wr.cell? ⟨ab, 0, none⟩ = some (.string (str am)) := BAk.out.cell 0
                  have HKN : Hid (∀ x, L[k].1 = x → ((L.map (·.1)).contains x = true)) := Lib.hid fun x hx => take_has (by rw [List.length_map]; exact hkL) (by rw [List.getElem_map]; exact hx)
                  have HKS : Hid (¬ L[k].1 = am → ((L.map (·.1)).take (k + 1)).contains am = false) := Lib.hid fun hx => take_contains (by rw [List.length_map]; exact hkL) HCT.out (by rw [List.getElem_map]; exact hx)
                  generalize L[k].1 = y at *
                  clear hc hv' hA' hkL
                  by_cases hy : y = am
                  · subst hy
                    have HX := Lib.hid (HOE.out (HKN.out _ rfl))
                    go_wp2_with fail
                    go_quiet (fail)
                    go_wp2_with fail
                    go_ret3
                    exact ⟨.slice none 0 0, [], by rw [HX.out]; rfl, below_drewN HBk.out _, fun L c r h => by rw [HX.out] at h; cases h⟩
                  · have ey : (y == am) = false := by simpa using hy
                    have HKS2 := Lib.hid (HKS.out hy)
                    go_wp2_with fail
                    go_quiet (fail)
                    go_wp2_with fail
                    go_roundw
                    case rel =>
                      have hq : Below wr.heap.size wr (wr.drewN nq) := below_drewN (Below.refl _ _) nq
                      exact ⟨k + 1, by have := HN2.out; omega, by go_num, HKS2.out, BTk.out.below hq BTk.out.lt, HARV.out _ (ownsRow_blk ARk.out fun k hk => hq.block k (World.ownsRow.lt ARk.out k hk).2), BAk.out.below hq BAk.out.lt, below_drewN HBk.out nq⟩
                    case measure => have := HN2.out; simp [intOf]; omega
                · have hkI : ¬ (k : Int) < (N : Int) := by omega
                  have HCN : Hid ((L.map (·.1)).contains am = false) := Lib.hid (by have h := HCT.out; rw [List.take_of_length_le (by rw [List.length_map]; have := HN2.out; omega)] at h; exact h)
                  have y0 : wr.cell? ⟨ab, 0, none⟩ = some (.string (str am)) := BAk.out.cell 0
                  have y1 : wr.cell? ⟨ab, 1, none⟩ = some (.string (str av)) := BAk.out.cell 1
                  have hb4 : Below wr.heap.size wr (wr.alloc (.cells #[.string (str am), .string (str av)] 39)) := (Below.refl _ _).alloc (Nat.le_refl _) _
                  have AR4 : Hid ((wr.alloc (.cells #[.string (str am), .string (str av)] 39)).ownsRow w.heap.size 39 2 (.slice A N c) N (acells L)) := Lib.hid (ownsRow_blk ARk.out fun k hk => hb4.block k (World.ownsRow.lt ARk.out k hk).2)
                  have BT4 := Lib.hid (BTk.out.below hb4 BTk.out.lt)
                  have BF4 : Hid (Blk (wr.alloc (.cells #[.string (str am), .string (str av)] 39)) wr.heap.size 39 #[.string (str am), .string (str av)]) := Lib.hid (Blk.fresh _ _ _)
                  have HB4 := Lib.hid (below_then HBk.out hb4)
                  clear hb4
                  go_wp2_with (at_builtin; go_must (refine wpList_append_w _ (by rfl) (.tmp 77) (.tmp 79) 34 (by rfl) w.heap.size 39 (.agg #[.string ⟨#[]⟩, .string ⟨#[]⟩]) 2 32 Tryd.underlying34 Tryd.attrinfo (by rfl) (by decide) _ _ _ (by rfl) (by exact AR4.out) _ _ _ (by rfl) (by exact attr_one BF4.out) (by simp [Value.oneCell']) (by have := HNB.out; unfold maxLen; omega) (by have := HNB.out; omega) (by exact HB4.out.size) ?_); intro v9 w9 o9 g9 a9; have O9 := Lib.hid o9; have HB9 : Hid (Below w.heap.size w w9) := Lib.hid (HB4.out.grown g9 HB4.out.size (fun k hk => (World.ownsRow.lt AR4.out k hk).1)); have bt9 : Blk w9 tb 36 #[.int .i64 1, .string (str nm), .slice A N c, .string ⟨#[]⟩] := (g9.block tb BT4.out.lt (fun hk => row_neB AR4.out BT4.out (by decide) tb hk.symm rfl)).trans BT4.out; have BT9 := Lib.hid bt9; have x9 : w9.cell? ⟨tb, 2, none⟩ = some (.slice A N c) := bt9.cell 2; have z9 : w9.frozen? ⟨tb, 2, none⟩ = false := bt9.free 2; clear o9 g9 a9 bt9 x2 y0 y1; obtain ⟨A5, c5, hv9, z5⟩ := ownsRow_shape O9.out; clear z5; obtain ⟨N5, hN5⟩ : ∃ N5, N5 = N + 1 := ⟨_, rfl⟩; rw [← hN5] at hv9; have HN5 := Lib.hid hN5; clear hN5; subst hv9)
                  clear x9 z9
                  go_roundw
                  case rel =>
                    have hset := grown_set w9 tb 2 (.slice A5 N5 c5)
                    refine ⟨m, rb, L ++ [(am, av)], .slice A5 N5 c5, HOF.out HCN.out, ?_, ?_, ?_, rfl, BT9.out.set 2 _, ?_, below_more HB9.out hset HTB.out⟩
                    · have := HRBL.out; have := HLN.out; omega
                    · have := HRBL.out; have := HLS.out; omega
                    · rw [List.length_append, List.length_singleton]; have := HN2.out; have := HNB.out; omega
                    · rw [List.length_append, acells_app]
                      have h9 := O9.out
                      rw [HN2.out] at h9
                      refine ownsRow_blk h9 fun k hk => hset.block k (World.ownsRow.lt h9 k hk).2 ?_
                      intro e1
                      injection e1 with e1
                      exact row_neB h9 BT9.out (by decide) k hk e1
                  case measure => exact HME.out
theorem ropen_any (l : List UInt8) (w : World) (hl : l.length ≤ 1000000) : Calls Tryd.prog 50 #[.string (str l)] w (ROpenAns w l) := by
  by_cases h0 : (nameV l).1 = []
  · exact ropen_nil l w hl h0
  · exact ropen_go l w hl h0
end Go.Proofs.YtelhdkidnhfnbaaDoor
