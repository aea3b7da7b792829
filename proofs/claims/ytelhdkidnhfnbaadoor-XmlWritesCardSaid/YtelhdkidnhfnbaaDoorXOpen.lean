/-
  An opening tag is read, with its attributes. Condition: at most a million bytes and tokens; the rows lie above the reader; the table of signs lies below it.
-/
import Derived.Test.YtelhdkidnhfnbaaDoorMgU
namespace Go.Proofs.YtelhdkidnhfnbaaDoor
open Go.RowKit

theorem RdrS.off {w W : World} {base g : Nat} {l l' : List UInt8} {tk p bf : Value} {E : List TokE} {text : List UInt8} (h : RdrS w base g l tk p bf E text) (hr : RdrAt W g l' tk p bf) (ho : Off (fun k => k = g) w W) : RdrS W base g l' tk p bf E text :=
  h.step hr ⟨ho.1, ho.2.1, ho.2.2.1, ho.2.2.2.1, fun k hk hne => ho.2.2.2.2 k hk fun e => hne (by rw [e])⟩
theorem Sig.off {g : Nat} {w W : World} (h : Sig w) (ho : Off (fun k => k = g) w W) (hg : 0 < g) : Sig W :=
  h.keepsR (g := g) ⟨ho.1, ho.2.1, ho.2.2.1, ho.2.2.2.1, fun k hk hne => ho.2.2.2.2 k hk fun e => hne (by rw [e])⟩ hg
theorem row_keepsR {w w' : World} {b e s n g : Nat} {v : Value} {xs : List Value} (h : w.ownsRow b e s v n xs) (hk : KeepsR g w w') (hg : g < b) : w'.ownsRow b e s v n xs :=
  ownsRow_blk h fun k hq => hk.block k (World.ownsRow.lt h k hq).2 (by
    intro e
    injection e with e
    have := (World.ownsRow.lt h k hq).1
    omega)
theorem acells_app : ∀ A B : AttrL, acells (A ++ B) = acells A ++ acells B
  | [], _ => rfl
  | a :: r, B => by
    show _ :: _ :: acells (r ++ B) = _
    rw [acells_app r B]; rfl
theorem acells_len : ∀ A : AttrL, (acells A).length = 2 * A.length
  | [] => rfl
  | a :: r => by
    show (acells r).length + 1 + 1 = _
    rw [acells_len r, List.length_cons]; omega
theorem rowcell {w : World} {b e s n : Nat} {v : Value} {xs : List Value} {k : Nat} (h : w.ownsRow b e s v n xs) (hk : v.ownBlock = some k) (j : Nat) (u : Value) (hu : xs[j]? = some u) : w.cell? ⟨k, j, none⟩ = some u := by
  rcases h.2 with ⟨rfl, _⟩ | ⟨g, cap, cur, rfl, _, hh, _, _, hcs, ht⟩
  · cases hk
  · injection hk with hk
    subst hk
    have h9 : w.cell? ⟨g, j, none⟩ = cur[j]? := cell_of_row w g j cur e (0, 0) hh
    rw [h9]
    have hj : j < xs.length := (List.getElem?_eq_some_iff.1 hu).1
    rw [← ht, List.getElem?_take] at hu
    split at hu
    · rw [← Array.getElem?_toList]; exact hu
    · cases hu
theorem srcA_row {w : World} {b : Nat} {v : Value} {L : AttrL} (h : w.ownsRow b 39 2 v L.length (acells L)) : SrcA w v L := by
  obtain ⟨A, c, hv, _, _, hn, ha⟩ := ownsRow_shape h
  refine ⟨A, c, hv, fun hp => ?_⟩
  cases A with
  | none => have := (hn rfl).1; omega
  | some ad =>
    obtain ⟨g, rfl, _⟩ := ha ad rfl
    have hb : v.ownBlock = some g := by rw [hv]; rfl
    refine ⟨g, 0, rfl, (World.ownsRow.lt h g hb).2, fun j u hu => ?_⟩
    rw [Nat.zero_add]
    exact rowcell h hb j u hu
theorem Tryd.attrinfo : (Tryd.prog.info? 39).map (fun i => (i.zero, i.size, i.bytes)) = some (some (.agg #[.string ⟨#[]⟩, .string ⟨#[]⟩]), 2, 32) := by kernel_rfl
theorem attr_one {w : World} {k : Nat} {a b : Value} (h : Blk w k 39 #[a, b]) : SrcW w 2 (.slice (some ⟨k, 0, none⟩) 1 1) 1 [a, b] := by
  refine ⟨_, 1, rfl, rfl, fun hn => (by cases hn), fun ad had j u hu => ?_⟩
  injection had with had
  subst had
  have hadd : (⟨k, 0, none⟩ : Addr).add j = ⟨k, j, none⟩ := by unfold Addr.add; split <;> simp_all
  rw [hadd, h.cell j]
  simpa using hu
def restLen (W : World) (g : Nat) : Nat := match W.cell? ⟨g, 0, none⟩ with
  | some (.string s) => s.size
  | _ => 0
theorem restLen_at {W : World} {g : Nat} {l : List UInt8} {tk p bf : Value} (h : RdrAt W g l tk p bf) : restLen W g = l.length := by
  have c0 : W.cell? ⟨g, 0, none⟩ = some (.string (str l)) := h.cell 0
  unfold restLen
  rw [c0]
  exact str_size l
def OpRel (w : World) (g tb : Nat) (r0 name : List UInt8) (tk p bf : Value) (_u4 _u5 : Value) (W : World) : Prop :=
  ∃ (n : Nat) (l : List UInt8) (L : AttrL) (v : Value), opnF n l L = opnF (r0.length + 1) r0 [] ∧ l.length < n ∧ l.length + L.length ≤ r0.length ∧ LensOk L ∧ RdrAt W g l tk p bf ∧ Off (fun k => k = g) w W ∧
    Blk W tb 36 #[.int .i64 1, .string (str name), v, .string ⟨#[]⟩] ∧ W.ownsRow w.heap.size 39 2 v L.length (acells L)
def OpenAns (w : World) (base g : Nat) (l : List UInt8) (E : List TokE) (text : List UInt8) (e : Ending) (w' : World) : Prop :=
  e = .returned (.bool (opnX l).isSome) ∧ Off (fun k => k = g ∨ base ≤ k) w w' ∧
    (∀ L c rest, opnX l = some (L, c, rest) → ∃ tk' p' bf' v, RdrS w' base g rest tk' p' bf' (E ++ textTok text ++ (⟨1, nameIn l, L, v, []⟩ :: if c = true then [closT l] else [])) [])
theorem open_no {l d : List UInt8} {L : AttrL} (h : opnF ((tailX l).length + 1) (tailX l) [] = some (L, d)) (h2 : (hasB (skipD d [47]) [62] && mayTok 1 (nameIn l) L []) = false) : opnX l = none := by
  unfold opnX
  rw [h]
  simp only
  rw [if_neg (by rw [h2]; exact Bool.false_ne_true)]
theorem open_yes {l d : List UInt8} {L : AttrL} (h : opnF ((tailX l).length + 1) (tailX l) [] = some (L, d)) (h2 : (hasB (skipD d [47]) [62] && mayTok 1 (nameIn l) L []) = true) : opnX l = some (L, hasB d [47], (skipD d [47]).drop 1) := by
  unfold opnX
  rw [h]
  simp only
  rw [if_pos h2]
theorem open_bad {l : List UInt8} (h : opnF ((tailX l).length + 1) (tailX l) [] = none) : opnX l = none := by
  unfold opnX
  rw [h]
theorem wide1 {w W : World} {base g : Nat} (h : Off (fun k => k = g) w W) : Off (fun k => k = g ∨ base ≤ k) w W := h.wide fun _ hk => .inl hk
theorem opnF_shift {n : Nat} {l : List UInt8} (h : l.length < n) : ∃ m, n = m + 1 := ⟨n - 1, by omega⟩
theorem textTok_len (t : List UInt8) : (textTok t).length ≤ 1 := by unfold textTok; split <;> simp
theorem wide_blk {w : World} {base g : Nat} {l : List UInt8} {tk p bf : Value} {E : List TokE} {text : List UInt8} {k : Nat} (h : RdrS w base g l tk p bf E text) (hk : k = g ∨ bf.ownBlock = some k ∨ tk.ownBlock = some k) : k = g ∨ base ≤ k := by
  rcases hk with hk | hk | hk
  · exact .inl hk
  · exact .inr (World.ownsRow.lt h.2.2.1 k hk).1
  · exact .inr (World.ownsRow.lt h.2.2.2.1 k hk).1
theorem tb_no {w : World} {base g tb : Nat} {l : List UInt8} {tk p bf : Value} {E : List TokE} {text : List UInt8} (h : RdrS w base g l tk p bf E text) (ht : w.heap.size ≤ tb) (hg : tb ≠ g) (hk : tb = g ∨ bf.ownBlock = some tb ∨ tk.ownBlock = some tb) : False := by
  rcases hk with hk | hk | hk
  · exact hg hk
  · have := (World.ownsRow.lt h.2.2.1 tb hk).2; omega
  · have := (World.ownsRow.lt h.2.2.2.1 tb hk).2; omega
/-- One attribute more, in memory. -/
theorem attr_push {w w2 w9 : World} {g tb : Nat} {l : List UInt8} {name : List UInt8} {tk p bf v v9 : Value} {L : AttrL} {a : List UInt8 × List UInt8} (hgw : g < w.heap.size) (htb : w.heap.size ≤ tb) (hr : RdrAt w2 g l tk p bf) (ho : Off (fun k => k = g) w w2)
    (hb : Blk w2 tb 36 #[.int .i64 1, .string (str name), v, .string ⟨#[]⟩]) (har : w2.ownsRow w.heap.size 39 2 v L.length (acells L)) (o2 : Off (fun k => v.ownBlock = some k) w2 w9)
    (o9 : w9.ownsRow w.heap.size 39 2 v9 (L.length + 1) (acells L ++ [.string (str a.1), .string (str a.2)])) :
    RdrAt (w9.setCell ⟨tb, 2, none⟩ v9) g l tk p bf ∧ Off (fun k => k = g) w (w9.setCell ⟨tb, 2, none⟩ v9) ∧ Blk (w9.setCell ⟨tb, 2, none⟩ v9) tb 36 #[.int .i64 1, .string (str name), v9, .string ⟨#[]⟩] ∧
      (w9.setCell ⟨tb, 2, none⟩ v9).ownsRow w.heap.size 39 2 v9 (L ++ [a]).length (acells (L ++ [a])) := by
  have hge : ∀ k, v.ownBlock = some k → w.heap.size ≤ k := fun k hk => (World.ownsRow.lt har k hk).1
  have hset : w9.grownBy (w9.setCell ⟨tb, 2, none⟩ v9) (some tb) := grown_set _ tb 2 _
  have hb9 : Blk w9 tb 36 #[.int .i64 1, .string (str name), v, .string ⟨#[]⟩] := (o2.2.2.2.2 tb hb.lt fun hk => row_neB har hb (by decide) tb hk rfl).trans hb
  have hoff : Off (fun k => k = g) w (w9.setCell ⟨tb, 2, none⟩ v9) := (ho.trans o2 fun k hk => .inr (hge k hk)).trans (Off.grown (F := fun k => k = tb) hset fun k hk => by injection hk with hk; exact hk.symm) fun k hk => .inr (by rw [hk]; exact htb)
  have hr9 : RdrAt w9 g l tk p bf := (o2.2.2.2.2 g (Blk.lt hr) fun hk => by have := hge g hk; omega).trans hr
  refine ⟨Blk.grown hr9 hset (by intro e; injection e with e; omega), hoff, hb9.set 2 _, ?_⟩
  rw [List.length_append, acells_app]
  refine ownsRow_blk o9 fun k hk => hset.block k (World.ownsRow.lt o9 k hk).2 ?_
  intro e1
  injection e1 with e1
  exact row_neB o9 hb9 (by decide) k hk e1
set_option maxHeartbeats 12800000 in
set_option maxRecDepth 100000 in
theorem opening_any {w : World} {base g : Nat} {l : List UInt8} {tk p bf : Value} {E : List TokE} {text : List UInt8} (h : RdrS w base g l tk p bf E text) (hE : E.length + 4 ≤ 1000000) (hl : l.length ≤ 1000000) (hS : Sig w) (hg : 0 < g) :
    Calls Tryd.prog 39 #[.pointer (some ⟨g, 0, none⟩)] w (OpenAns w base g l E text) := by
  have HRS := Lib.hid h
  have HE := Lib.hid hE
  have HL := Lib.hid hl
  have HSG := Lib.hid hS
  have HG := Lib.hid hg
  have HGW : Hid (g < w.heap.size) := Lib.hid (Blk.lt h.1)
  clear h hE hl hS hg
  go_enter Tryd.func39, Tryd.ntmps39
  go_wp2_with (go_at_call 41; refine (take_in HRS.out.1).mono ?_; rintro e w1 ⟨rfl, hr1, hk1⟩; have HR1 := Lib.hid hr1; have HO1 := Lib.hid (Off.step hk1); clear hr1 hk1)
  obtain ⟨tb, htb⟩ : ∃ tb, tb = w1.heap.size := ⟨_, rfl⟩
  have HTB : Hid (w.heap.size ≤ tb) := Lib.hid (by rw [htb]; exact HO1.out.2.2.2.1)
  have HTG : Hid (tb ≠ g) := Lib.hid (by have := HTB.out; have := HGW.out; omega)
  have BT0 : Hid (Blk (w1.alloc (.cells #[.int .i64 1, .string (str (nameIn l)), .slice none 0 0, .string ⟨#[]⟩] 36)) tb 36 #[.int .i64 1, .string (str (nameIn l)), .slice none 0 0, .string ⟨#[]⟩]) := Lib.hid (by rw [htb]; exact Blk.fresh _ _ _)
  have hb0 : Below w1.heap.size w1 (w1.alloc (.cells #[.int .i64 1, .string (str (nameIn l)), .slice none 0 0, .string ⟨#[]⟩] 36)) := (Below.refl _ _).alloc (Nat.le_refl _) _
  have HR0 : Hid (RdrAt (w1.alloc (.cells #[.int .i64 1, .string (str (nameIn l)), .slice none 0 0, .string ⟨#[]⟩] 36)) g (tailX l) tk p bf) := Lib.hid (HR1.out.below hb0 HR1.out.lt6)
  have HO0 := Lib.hid (HO1.out.trans (Off.below (F := fun _ => False) hb0) fun _ h => h.elim)
  clear hb0
  have hX0 : ∃ W0, W0 = (w1.alloc (.cells #[.int .i64 1, .string (str (nameIn l)), .slice none 0 0, .string ⟨#[]⟩] 36)) := ⟨_, rfl⟩
  have HTL : Hid ((tailX l).length ≤ 1000000) := Lib.hid (Nat.le_trans (tailX_len l) HL.out)
  rw [← htb]
  clear htb
  go_loopw [4, 5] (OpRel w g tb (tailX l) (nameIn l) tk p bf) (fun _ _ W => restLen W g)
  case atStart => exact ⟨(tailX l).length + 1, tailX l, [], .slice none 0 0, rfl, Nat.lt_succ_self _, Nat.le_refl _, lensNil, HR0.out, HO0.out, BT0.out, World.ownsRow_nil _ _ _ _⟩
  case round =>
    obtain ⟨n, lr, L, v, hop, hln, hsum, hlo, hr, ho, hbt, har⟩ := hrel
    obtain ⟨m, hm⟩ := opnF_shift hln
    subst hm
    obtain ⟨A, c, hv, _⟩ := ownsRow_shape har
    obtain ⟨N, hN⟩ : ∃ N, N = L.length := ⟨_, rfl⟩
    rw [← hN] at hv
    subst hv
    have HN := Lib.hid hN
    have HLO := Lib.hid hlo
    have HR := Lib.hid hr
    have HO := Lib.hid ho
    have BT := Lib.hid hbt
    rw [← hN] at har
    have AR := Lib.hid har
    have HARV : Hid (∀ {b : Nat} (W : World), W.ownsRow b 39 2 (.slice A N c) N (acells L) → W.ownsRow b 39 2 (.slice A N c) L.length (acells L)) := Lib.hid fun W h => by rw [← HN.out]; exact h
    have HVS : Hid (L.length = N) := Lib.hid hN.symm
    have HLN := Lib.hid hln
    have HSU := Lib.hid hsum
    have HOF := Lib.hid hop
    have HME : Hid (restLen wr g = lr.length) := Lib.hid (restLen_at hr)
    obtain ⟨d, hd⟩ : ∃ d, d = dropB lr := ⟨_, rfl⟩
    have HD := Lib.hid hd
    have HDL : Hid (d.length ≤ 1000000) := Lib.hid (by rw [hd]; have := dropB_len lr; have := HTL.out; omega)
    obtain ⟨B1, hB1⟩ : ∃ B1, B1 = blk1 lr := ⟨_, rfl⟩
    have HB1 := Lib.hid hB1
    obtain ⟨B2, hB2⟩ : ∃ B2, B2 = atEndB d := ⟨_, rfl⟩
    have HB2 := Lib.hid hB2
    clear hop hln hsum hlo hr ho hbt har hN hd hB1 hB2
    cases B1 with
    | false =>
      have HOP : Hid (opnF ((tailX l).length + 1) (tailX l) [] = some (L, d)) := Lib.hid (by rw [← HOF.out, opnF_stop (.inl HB1.out.symm), HD.out])
      go_wp2_with (go_at_call 61; have kb := blanks_any HR.out; rw [← HB1.out] at kb; refine kb.mono ?_; rintro e wb ⟨rfl, hrb, hkb⟩; rw [← HD.out] at hrb; have HRB := Lib.hid hrb; have HOB := Lib.hid (HO.out.trans (Off.step hkb) fun _ h => .inl h); have BTB := Lib.hid (BT.out.keepsR hkb HTG.out); have ARB := Lib.hid (row_keepsR AR.out hkb HGW.out); clear kb hrb hkb)
      obtain ⟨C, hC⟩ : ∃ C, C = hasB d [47] := ⟨_, rfl⟩
      obtain ⟨d1, hd1⟩ : ∃ d1, d1 = skipD d [47] := ⟨_, rfl⟩
      have HC := Lib.hid hC
      have HD1 := Lib.hid hd1
      obtain ⟨B4, hB4⟩ : ∃ B4, B4 = hasB d1 [62] := ⟨_, rfl⟩
      have HB4 := Lib.hid hB4
      obtain ⟨B5, hB5⟩ : ∃ B5, B5 = mayTok 1 (nameIn l) L [] := ⟨_, rfl⟩
      have HB5 := Lib.hid hB5
      clear hC hd1 hB4 hB5
      cases B4 with
      | false =>
        have HX : Hid (opnX l = none) := Lib.hid (open_no HOP.out (by rw [← HD1.out, ← HB4.out]; rfl))
        go_wp2_with (first | (go_at_call 34; have ks := skip_any HR5.out [62]; rw [← HB4.out] at ks; refine ks.mono ?_; rintro e w6 ⟨rfl, hr6, hk6⟩; have HR6 := Lib.hid hr6; have HO6 := Lib.hid (HO5.out.trans (Off.step hk6) fun _ h => .inl h); have BT6 := Lib.hid (BT5.out.keepsR hk6 HTG.out); have AR6 := Lib.hid (row_keepsR AR5.out hk6 HGW.out); clear ks hr6 hk6) | (go_at_call 34; have ks := skip_any HRB.out [47]; rw [← HC.out] at ks; refine ks.mono ?_; rintro e w5 ⟨rfl, hr5, hk5⟩; rw [← HD1.out] at hr5; have HR5 := Lib.hid hr5; have HO5 := Lib.hid (HOB.out.trans (Off.step hk5) fun _ h => .inl h); have BT5 := Lib.hid (BTB.out.keepsR hk5 HTG.out); have AR5 := Lib.hid (row_keepsR ARB.out hk5 HGW.out); clear ks hr5 hk5))
        go_ret
        exact ⟨by rw [HX.out]; rfl, wide1 HO6.out, fun L c rest h => by rw [HX.out] at h; cases h⟩
      | true =>
        cases B5 with
        | false =>
          have HX : Hid (opnX l = none) := Lib.hid (open_no HOP.out (by rw [← HD1.out, ← HB4.out, ← HB5.out]; rfl))
          go_wp2_with (first | (go_at_call 34; have ks := skip_any HR5.out [62]; rw [← HB4.out] at ks; refine ks.mono ?_; rintro e w6 ⟨rfl, hr6, hk6⟩; have HR6 := Lib.hid hr6; have HO6 := Lib.hid (HO5.out.trans (Off.step hk6) fun _ h => .inl h); have BT6 := Lib.hid (BT5.out.keepsR hk6 HTG.out); have AR6 := Lib.hid (row_keepsR AR5.out hk6 HGW.out); have z0 : w6.cell? ⟨tb, 0, none⟩ = some (.int .i64 1) := BT6.out.cell 0; have z1 : w6.cell? ⟨tb, 1, none⟩ = some (.string (str (nameIn l))) := BT6.out.cell 1; have z2 : w6.cell? ⟨tb, 2, none⟩ = some (.slice A N c) := BT6.out.cell 2; have z3 : w6.cell? ⟨tb, 3, none⟩ = some (.string ⟨#[]⟩) := BT6.out.cell 3; clear ks hr6 hk6) | (go_at_call 34; have ks := skip_any HRB.out [47]; rw [← HC.out] at ks; refine ks.mono ?_; rintro e w5 ⟨rfl, hr5, hk5⟩; rw [← HD1.out] at hr5; have HR5 := Lib.hid hr5; have HO5 := Lib.hid (HOB.out.trans (Off.step hk5) fun _ h => .inl h); have BT5 := Lib.hid (BTB.out.keepsR hk5 HTG.out); have AR5 := Lib.hid (row_keepsR ARB.out hk5 HGW.out); clear ks hr5 hk5) | (go_at_call 23; have km := mayBe_any (k := 1) (name := nameIn l) (text := []) (srcA_row (HARV.out _ AR6.out)) HLO.out; rw [← HB5.out] at km; refine km.mono ?_; rintro e w7 ⟨rfl, hb7⟩; have HO7 := Lib.hid (HO6.out.trans (Off.below (F := fun _ => False) hb7) fun _ h => h.elim); clear hb7; clear km z0 z1 z2 z3))
          go_ret
          exact ⟨by rw [HX.out]; rfl, wide1 HO7.out, fun L c rest h => by rw [HX.out] at h; cases h⟩
        | true =>
          have HX : Hid (opnX l = some (L, C, d1.drop 1)) := Lib.hid (by have h := open_yes HOP.out (by rw [← HD1.out, ← HB4.out, ← HB5.out]; rfl); rw [← HD1.out, ← HC.out] at h; exact h)
          have HSK : Hid (skipD d1 [62] = d1.drop 1) := Lib.hid (by unfold skipD; rw [← HB4.out]; rfl)
          cases C with
          | false =>
            go_wp2_with (first | (go_at_call 62; have ka := add_any HS7.out (by have := HE.out; omega) ⟨1, nameIn l, L, .slice A N c, []⟩ HV7.out; refine ka.mono ?_; rintro e w8 ⟨rfl, tk', p', bf', hr8, ho8, _⟩; have HS8 := Lib.hid hr8; have HO8 : Hid (Off (fun k => k = g ∨ base ≤ k) w w8) := Lib.hid ((wide1 HO7.out).trans (ho8.wide (G := fun k => k = g ∨ base ≤ k) fun k hk => wide_blk HS7.out hk) fun _ h => .inl h); clear ka hr8 ho8 y0 y1 y2 y3) | (go_at_call 34; have ks := skip_any HR5.out [62]; rw [← HB4.out] at ks; refine ks.mono ?_; rintro e w6 ⟨rfl, hr6, hk6⟩; have HO6 := Lib.hid (HO5.out.trans (Off.step hk6) fun _ h => .inl h); have BT6 := Lib.hid (BT5.out.keepsR hk6 HTG.out); have AR6 := Lib.hid (row_keepsR AR5.out hk6 HGW.out); rw [HSK.out] at hr6; have HR6 := Lib.hid hr6; have z0 : w6.cell? ⟨tb, 0, none⟩ = some (.int .i64 1) := BT6.out.cell 0; have z1 : w6.cell? ⟨tb, 1, none⟩ = some (.string (str (nameIn l))) := BT6.out.cell 1; have z2 : w6.cell? ⟨tb, 2, none⟩ = some (.slice A N c) := BT6.out.cell 2; have z3 : w6.cell? ⟨tb, 3, none⟩ = some (.string ⟨#[]⟩) := BT6.out.cell 3; clear ks hr6 hk6) | (go_at_call 34; have ks := skip_any HRB.out [47]; rw [← HC.out] at ks; refine ks.mono ?_; rintro e w5 ⟨rfl, hr5, hk5⟩; rw [← HD1.out] at hr5; have HR5 := Lib.hid hr5; have HO5 := Lib.hid (HOB.out.trans (Off.step hk5) fun _ h => .inl h); have BT5 := Lib.hid (BTB.out.keepsR hk5 HTG.out); have AR5 := Lib.hid (row_keepsR ARB.out hk5 HGW.out); clear ks hr5 hk5) | (go_at_call 23; have km := mayBe_any (k := 1) (name := nameIn l) (text := []) (srcA_row (HARV.out _ AR6.out)) HLO.out; rw [← HB5.out] at km; refine km.mono ?_; rintro e w7 ⟨rfl, hb7⟩; have HO7 := Lib.hid (HO6.out.trans (Off.below (F := fun _ => False) hb7) fun _ h => h.elim); have BT7 := Lib.hid (BT6.out.below hb7 BT6.out.lt); have HR7 := Lib.hid (HR6.out.below hb7 HR6.out.lt6); have HS7 := Lib.hid (HRS.out.off HR7.out HO7.out); have HV7 : Hid (AttrRow w7 base ⟨1, nameIn l, L, .slice A N c, []⟩) := Lib.hid (by have h := ownsRow_more (ownsRow_blk AR6.out fun k hk => hb7.block k (World.ownsRow.lt AR6.out k hk).2) HRS.out.2.2.2.2.2.2; exact HARV.out _ h); have y0 : w7.cell? ⟨tb, 0, none⟩ = some (.int .i64 1) := BT7.out.cell 0; have y1 : w7.cell? ⟨tb, 1, none⟩ = some (.string (str (nameIn l))) := BT7.out.cell 1; have y2 : w7.cell? ⟨tb, 2, none⟩ = some (.slice A N c) := BT7.out.cell 2; have y3 : w7.cell? ⟨tb, 3, none⟩ = some (.string ⟨#[]⟩) := BT7.out.cell 3; clear hb7; clear km z0 z1 z2 z3))
            go_ret
            exact ⟨by rw [HX.out]; rfl, HO8.out, fun L' c' rest' h => by rw [HX.out] at h; injection h with h; injection h with h1 h; injection h with h2 h3; subst h1 h2 h3; exact ⟨tk', p', bf', .slice A N c, HS8.out⟩⟩
          | true =>
            go_wp2_with (first | (go_at_call 62; have ka := add_any HS8.out (by have := HE.out; have h9 : (textTok text).length ≤ 1 := textTok_len text; simp only [List.length_append, List.length_cons, List.length_nil]; omega) (closT l) (World.ownsRow_nil _ _ _ _); refine ka.mono ?_; rintro e w9 ⟨rfl, tk'', p'', bf'', hr9, ho9, _⟩; have HS9 := Lib.hid hr9; have HO9 : Hid (Off (fun k => k = g ∨ base ≤ k) w w9) := Lib.hid (HO8.out.trans (ho9.wide (G := fun k => k = g ∨ base ≤ k) fun k hk => wide_blk HS8.out hk) fun _ h => .inl h); clear ka hr9 ho9 x8) | (go_at_call 62; have ka := add_any HS7.out (by have := HE.out; omega) ⟨1, nameIn l, L, .slice A N c, []⟩ HV7.out; refine ka.mono ?_; rintro e w8 ⟨rfl, tk', p', bf', hr8, ho8, _⟩; have HS8 := Lib.hid hr8; have HO8 : Hid (Off (fun k => k = g ∨ base ≤ k) w w8) := Lib.hid ((wide1 HO7.out).trans (ho8.wide (G := fun k => k = g ∨ base ≤ k) fun k hk => wide_blk HS7.out hk) fun _ h => .inl h); have x8 : w8.cell? ⟨tb, 1, none⟩ = some (.string (str (nameIn l))) := Blk.cell ((ho8.2.2.2.2 tb BT7.out.lt (fun e1 => tb_no HRS.out HTB.out HTG.out e1)).trans BT7.out) 1; clear ka hr8 ho8 y0 y1 y2 y3) | (go_at_call 34; have ks := skip_any HR5.out [62]; rw [← HB4.out] at ks; refine ks.mono ?_; rintro e w6 ⟨rfl, hr6, hk6⟩; have HO6 := Lib.hid (HO5.out.trans (Off.step hk6) fun _ h => .inl h); have BT6 := Lib.hid (BT5.out.keepsR hk6 HTG.out); have AR6 := Lib.hid (row_keepsR AR5.out hk6 HGW.out); rw [HSK.out] at hr6; have HR6 := Lib.hid hr6; have z0 : w6.cell? ⟨tb, 0, none⟩ = some (.int .i64 1) := BT6.out.cell 0; have z1 : w6.cell? ⟨tb, 1, none⟩ = some (.string (str (nameIn l))) := BT6.out.cell 1; have z2 : w6.cell? ⟨tb, 2, none⟩ = some (.slice A N c) := BT6.out.cell 2; have z3 : w6.cell? ⟨tb, 3, none⟩ = some (.string ⟨#[]⟩) := BT6.out.cell 3; clear ks hr6 hk6) | (go_at_call 34; have ks := skip_any HRB.out [47]; rw [← HC.out] at ks; refine ks.mono ?_; rintro e w5 ⟨rfl, hr5, hk5⟩; rw [← HD1.out] at hr5; have HR5 := Lib.hid hr5; have HO5 := Lib.hid (HOB.out.trans (Off.step hk5) fun _ h => .inl h); have BT5 := Lib.hid (BTB.out.keepsR hk5 HTG.out); have AR5 := Lib.hid (row_keepsR ARB.out hk5 HGW.out); clear ks hr5 hk5) | (go_at_call 23; have km := mayBe_any (k := 1) (name := nameIn l) (text := []) (srcA_row (HARV.out _ AR6.out)) HLO.out; rw [← HB5.out] at km; refine km.mono ?_; rintro e w7 ⟨rfl, hb7⟩; have HO7 := Lib.hid (HO6.out.trans (Off.below (F := fun _ => False) hb7) fun _ h => h.elim); have BT7 := Lib.hid (BT6.out.below hb7 BT6.out.lt); have HR7 := Lib.hid (HR6.out.below hb7 HR6.out.lt6); have HS7 := Lib.hid (HRS.out.off HR7.out HO7.out); have HV7 : Hid (AttrRow w7 base ⟨1, nameIn l, L, .slice A N c, []⟩) := Lib.hid (by have h := ownsRow_more (ownsRow_blk AR6.out fun k hk => hb7.block k (World.ownsRow.lt AR6.out k hk).2) HRS.out.2.2.2.2.2.2; exact HARV.out _ h); have y0 : w7.cell? ⟨tb, 0, none⟩ = some (.int .i64 1) := BT7.out.cell 0; have y1 : w7.cell? ⟨tb, 1, none⟩ = some (.string (str (nameIn l))) := BT7.out.cell 1; have y2 : w7.cell? ⟨tb, 2, none⟩ = some (.slice A N c) := BT7.out.cell 2; have y3 : w7.cell? ⟨tb, 3, none⟩ = some (.string ⟨#[]⟩) := BT7.out.cell 3; clear hb7; clear km z0 z1 z2 z3))
            go_ret
            exact ⟨by rw [HX.out]; rfl, HO9.out, fun L' c' rest' h => by rw [HX.out] at h; injection h with h; injection h with h1 h; injection h with h2 h3; subst h1 h2 h3; exact ⟨tk'', p'', bf'', .slice A N c, by have h := HS9.out; rw [show textTok [] = [] from rfl, List.append_nil, List.append_assoc] at h; exact h⟩⟩
    | true =>
      cases B2 with
      | true =>
        have HOP : Hid (opnF ((tailX l).length + 1) (tailX l) [] = some (L, d)) := Lib.hid (by rw [← HOF.out, opnF_stop (.inr (by rw [← HD.out]; exact HB2.out.symm)), HD.out])
        go_wp2_with (first | (go_at_call 61; have kb := blanks_any HR.out; rw [← HB1.out] at kb; refine kb.mono ?_; rintro e wb ⟨rfl, hrb, hkb⟩; rw [← HD.out] at hrb; have HRB := Lib.hid hrb; have HOB := Lib.hid (HO.out.trans (Off.step hkb) fun _ h => .inl h); have BTB := Lib.hid (BT.out.keepsR hkb HTG.out); have ARB := Lib.hid (row_keepsR AR.out hkb HGW.out); clear kb hrb hkb) | (go_at_call 63; have ke := atEnd_any HRB.out; rw [← HB2.out] at ke; refine ke.mono ?_; rintro e we ⟨rfl, rfl⟩; clear ke))
        obtain ⟨C, hC⟩ : ∃ C, C = hasB d [47] := ⟨_, rfl⟩
        obtain ⟨d1, hd1⟩ : ∃ d1, d1 = skipD d [47] := ⟨_, rfl⟩
        have HC := Lib.hid hC
        have HD1 := Lib.hid hd1
        obtain ⟨B4, hB4⟩ : ∃ B4, B4 = hasB d1 [62] := ⟨_, rfl⟩
        have HB4 := Lib.hid hB4
        obtain ⟨B5, hB5⟩ : ∃ B5, B5 = mayTok 1 (nameIn l) L [] := ⟨_, rfl⟩
        have HB5 := Lib.hid hB5
        clear hC hd1 hB4 hB5
        cases B4 with
        | false =>
          have HX : Hid (opnX l = none) := Lib.hid (open_no HOP.out (by rw [← HD1.out, ← HB4.out]; rfl))
          go_wp2_with (first | (go_at_call 34; have ks := skip_any HR5.out [62]; rw [← HB4.out] at ks; refine ks.mono ?_; rintro e w6 ⟨rfl, hr6, hk6⟩; have HR6 := Lib.hid hr6; have HO6 := Lib.hid (HO5.out.trans (Off.step hk6) fun _ h => .inl h); have BT6 := Lib.hid (BT5.out.keepsR hk6 HTG.out); have AR6 := Lib.hid (row_keepsR AR5.out hk6 HGW.out); clear ks hr6 hk6) | (go_at_call 34; have ks := skip_any HRB.out [47]; rw [← HC.out] at ks; refine ks.mono ?_; rintro e w5 ⟨rfl, hr5, hk5⟩; rw [← HD1.out] at hr5; have HR5 := Lib.hid hr5; have HO5 := Lib.hid (HOB.out.trans (Off.step hk5) fun _ h => .inl h); have BT5 := Lib.hid (BTB.out.keepsR hk5 HTG.out); have AR5 := Lib.hid (row_keepsR ARB.out hk5 HGW.out); clear ks hr5 hk5))
          go_ret
          exact ⟨by rw [HX.out]; rfl, wide1 HO6.out, fun L c rest h => by rw [HX.out] at h; cases h⟩
        | true =>
          cases B5 with
          | false =>
            have HX : Hid (opnX l = none) := Lib.hid (open_no HOP.out (by rw [← HD1.out, ← HB4.out, ← HB5.out]; rfl))
            go_wp2_with (first | (go_at_call 34; have ks := skip_any HR5.out [62]; rw [← HB4.out] at ks; refine ks.mono ?_; rintro e w6 ⟨rfl, hr6, hk6⟩; have HR6 := Lib.hid hr6; have HO6 := Lib.hid (HO5.out.trans (Off.step hk6) fun _ h => .inl h); have BT6 := Lib.hid (BT5.out.keepsR hk6 HTG.out); have AR6 := Lib.hid (row_keepsR AR5.out hk6 HGW.out); have z0 : w6.cell? ⟨tb, 0, none⟩ = some (.int .i64 1) := BT6.out.cell 0; have z1 : w6.cell? ⟨tb, 1, none⟩ = some (.string (str (nameIn l))) := BT6.out.cell 1; have z2 : w6.cell? ⟨tb, 2, none⟩ = some (.slice A N c) := BT6.out.cell 2; have z3 : w6.cell? ⟨tb, 3, none⟩ = some (.string ⟨#[]⟩) := BT6.out.cell 3; clear ks hr6 hk6) | (go_at_call 34; have ks := skip_any HRB.out [47]; rw [← HC.out] at ks; refine ks.mono ?_; rintro e w5 ⟨rfl, hr5, hk5⟩; rw [← HD1.out] at hr5; have HR5 := Lib.hid hr5; have HO5 := Lib.hid (HOB.out.trans (Off.step hk5) fun _ h => .inl h); have BT5 := Lib.hid (BTB.out.keepsR hk5 HTG.out); have AR5 := Lib.hid (row_keepsR ARB.out hk5 HGW.out); clear ks hr5 hk5) | (go_at_call 23; have km := mayBe_any (k := 1) (name := nameIn l) (text := []) (srcA_row (HARV.out _ AR6.out)) HLO.out; rw [← HB5.out] at km; refine km.mono ?_; rintro e w7 ⟨rfl, hb7⟩; have HO7 := Lib.hid (HO6.out.trans (Off.below (F := fun _ => False) hb7) fun _ h => h.elim); clear hb7; clear km z0 z1 z2 z3))
            go_ret
            exact ⟨by rw [HX.out]; rfl, wide1 HO7.out, fun L c rest h => by rw [HX.out] at h; cases h⟩
          | true =>
            have HX : Hid (opnX l = some (L, C, d1.drop 1)) := Lib.hid (by have h := open_yes HOP.out (by rw [← HD1.out, ← HB4.out, ← HB5.out]; rfl); rw [← HD1.out, ← HC.out] at h; exact h)
            have HSK : Hid (skipD d1 [62] = d1.drop 1) := Lib.hid (by unfold skipD; rw [← HB4.out]; rfl)
            cases C with
            | false =>
              go_wp2_with (first | (go_at_call 62; have ka := add_any HS7.out (by have := HE.out; omega) ⟨1, nameIn l, L, .slice A N c, []⟩ HV7.out; refine ka.mono ?_; rintro e w8 ⟨rfl, tk', p', bf', hr8, ho8, _⟩; have HS8 := Lib.hid hr8; have HO8 : Hid (Off (fun k => k = g ∨ base ≤ k) w w8) := Lib.hid ((wide1 HO7.out).trans (ho8.wide (G := fun k => k = g ∨ base ≤ k) fun k hk => wide_blk HS7.out hk) fun _ h => .inl h); clear ka hr8 ho8 y0 y1 y2 y3) | (go_at_call 34; have ks := skip_any HR5.out [62]; rw [← HB4.out] at ks; refine ks.mono ?_; rintro e w6 ⟨rfl, hr6, hk6⟩; have HO6 := Lib.hid (HO5.out.trans (Off.step hk6) fun _ h => .inl h); have BT6 := Lib.hid (BT5.out.keepsR hk6 HTG.out); have AR6 := Lib.hid (row_keepsR AR5.out hk6 HGW.out); rw [HSK.out] at hr6; have HR6 := Lib.hid hr6; have z0 : w6.cell? ⟨tb, 0, none⟩ = some (.int .i64 1) := BT6.out.cell 0; have z1 : w6.cell? ⟨tb, 1, none⟩ = some (.string (str (nameIn l))) := BT6.out.cell 1; have z2 : w6.cell? ⟨tb, 2, none⟩ = some (.slice A N c) := BT6.out.cell 2; have z3 : w6.cell? ⟨tb, 3, none⟩ = some (.string ⟨#[]⟩) := BT6.out.cell 3; clear ks hr6 hk6) | (go_at_call 34; have ks := skip_any HRB.out [47]; rw [← HC.out] at ks; refine ks.mono ?_; rintro e w5 ⟨rfl, hr5, hk5⟩; rw [← HD1.out] at hr5; have HR5 := Lib.hid hr5; have HO5 := Lib.hid (HOB.out.trans (Off.step hk5) fun _ h => .inl h); have BT5 := Lib.hid (BTB.out.keepsR hk5 HTG.out); have AR5 := Lib.hid (row_keepsR ARB.out hk5 HGW.out); clear ks hr5 hk5) | (go_at_call 23; have km := mayBe_any (k := 1) (name := nameIn l) (text := []) (srcA_row (HARV.out _ AR6.out)) HLO.out; rw [← HB5.out] at km; refine km.mono ?_; rintro e w7 ⟨rfl, hb7⟩; have HO7 := Lib.hid (HO6.out.trans (Off.below (F := fun _ => False) hb7) fun _ h => h.elim); have BT7 := Lib.hid (BT6.out.below hb7 BT6.out.lt); have HR7 := Lib.hid (HR6.out.below hb7 HR6.out.lt6); have HS7 := Lib.hid (HRS.out.off HR7.out HO7.out); have HV7 : Hid (AttrRow w7 base ⟨1, nameIn l, L, .slice A N c, []⟩) := Lib.hid (by have h := ownsRow_more (ownsRow_blk AR6.out fun k hk => hb7.block k (World.ownsRow.lt AR6.out k hk).2) HRS.out.2.2.2.2.2.2; exact HARV.out _ h); have y0 : w7.cell? ⟨tb, 0, none⟩ = some (.int .i64 1) := BT7.out.cell 0; have y1 : w7.cell? ⟨tb, 1, none⟩ = some (.string (str (nameIn l))) := BT7.out.cell 1; have y2 : w7.cell? ⟨tb, 2, none⟩ = some (.slice A N c) := BT7.out.cell 2; have y3 : w7.cell? ⟨tb, 3, none⟩ = some (.string ⟨#[]⟩) := BT7.out.cell 3; clear hb7; clear km z0 z1 z2 z3))
              go_ret
              exact ⟨by rw [HX.out]; rfl, HO8.out, fun L' c' rest' h => by rw [HX.out] at h; injection h with h; injection h with h1 h; injection h with h2 h3; subst h1 h2 h3; exact ⟨tk', p', bf', .slice A N c, HS8.out⟩⟩
            | true =>
              go_wp2_with (first | (go_at_call 62; have ka := add_any HS8.out (by have := HE.out; have h9 : (textTok text).length ≤ 1 := textTok_len text; simp only [List.length_append, List.length_cons, List.length_nil]; omega) (closT l) (World.ownsRow_nil _ _ _ _); refine ka.mono ?_; rintro e w9 ⟨rfl, tk'', p'', bf'', hr9, ho9, _⟩; have HS9 := Lib.hid hr9; have HO9 : Hid (Off (fun k => k = g ∨ base ≤ k) w w9) := Lib.hid (HO8.out.trans (ho9.wide (G := fun k => k = g ∨ base ≤ k) fun k hk => wide_blk HS8.out hk) fun _ h => .inl h); clear ka hr9 ho9 x8) | (go_at_call 62; have ka := add_any HS7.out (by have := HE.out; omega) ⟨1, nameIn l, L, .slice A N c, []⟩ HV7.out; refine ka.mono ?_; rintro e w8 ⟨rfl, tk', p', bf', hr8, ho8, _⟩; have HS8 := Lib.hid hr8; have HO8 : Hid (Off (fun k => k = g ∨ base ≤ k) w w8) := Lib.hid ((wide1 HO7.out).trans (ho8.wide (G := fun k => k = g ∨ base ≤ k) fun k hk => wide_blk HS7.out hk) fun _ h => .inl h); have x8 : w8.cell? ⟨tb, 1, none⟩ = some (.string (str (nameIn l))) := Blk.cell ((ho8.2.2.2.2 tb BT7.out.lt (fun e1 => tb_no HRS.out HTB.out HTG.out e1)).trans BT7.out) 1; clear ka hr8 ho8 y0 y1 y2 y3) | (go_at_call 34; have ks := skip_any HR5.out [62]; rw [← HB4.out] at ks; refine ks.mono ?_; rintro e w6 ⟨rfl, hr6, hk6⟩; have HO6 := Lib.hid (HO5.out.trans (Off.step hk6) fun _ h => .inl h); have BT6 := Lib.hid (BT5.out.keepsR hk6 HTG.out); have AR6 := Lib.hid (row_keepsR AR5.out hk6 HGW.out); rw [HSK.out] at hr6; have HR6 := Lib.hid hr6; have z0 : w6.cell? ⟨tb, 0, none⟩ = some (.int .i64 1) := BT6.out.cell 0; have z1 : w6.cell? ⟨tb, 1, none⟩ = some (.string (str (nameIn l))) := BT6.out.cell 1; have z2 : w6.cell? ⟨tb, 2, none⟩ = some (.slice A N c) := BT6.out.cell 2; have z3 : w6.cell? ⟨tb, 3, none⟩ = some (.string ⟨#[]⟩) := BT6.out.cell 3; clear ks hr6 hk6) | (go_at_call 34; have ks := skip_any HRB.out [47]; rw [← HC.out] at ks; refine ks.mono ?_; rintro e w5 ⟨rfl, hr5, hk5⟩; rw [← HD1.out] at hr5; have HR5 := Lib.hid hr5; have HO5 := Lib.hid (HOB.out.trans (Off.step hk5) fun _ h => .inl h); have BT5 := Lib.hid (BTB.out.keepsR hk5 HTG.out); have AR5 := Lib.hid (row_keepsR ARB.out hk5 HGW.out); clear ks hr5 hk5) | (go_at_call 23; have km := mayBe_any (k := 1) (name := nameIn l) (text := []) (srcA_row (HARV.out _ AR6.out)) HLO.out; rw [← HB5.out] at km; refine km.mono ?_; rintro e w7 ⟨rfl, hb7⟩; have HO7 := Lib.hid (HO6.out.trans (Off.below (F := fun _ => False) hb7) fun _ h => h.elim); have BT7 := Lib.hid (BT6.out.below hb7 BT6.out.lt); have HR7 := Lib.hid (HR6.out.below hb7 HR6.out.lt6); have HS7 := Lib.hid (HRS.out.off HR7.out HO7.out); have HV7 : Hid (AttrRow w7 base ⟨1, nameIn l, L, .slice A N c, []⟩) := Lib.hid (by have h := ownsRow_more (ownsRow_blk AR6.out fun k hk => hb7.block k (World.ownsRow.lt AR6.out k hk).2) HRS.out.2.2.2.2.2.2; exact HARV.out _ h); have y0 : w7.cell? ⟨tb, 0, none⟩ = some (.int .i64 1) := BT7.out.cell 0; have y1 : w7.cell? ⟨tb, 1, none⟩ = some (.string (str (nameIn l))) := BT7.out.cell 1; have y2 : w7.cell? ⟨tb, 2, none⟩ = some (.slice A N c) := BT7.out.cell 2; have y3 : w7.cell? ⟨tb, 3, none⟩ = some (.string ⟨#[]⟩) := BT7.out.cell 3; clear hb7; clear km z0 z1 z2 z3))
              go_ret
              exact ⟨by rw [HX.out]; rfl, HO9.out, fun L' c' rest' h => by rw [HX.out] at h; injection h with h; injection h with h1 h; injection h with h2 h3; subst h1 h2 h3; exact ⟨tk'', p'', bf'', .slice A N c, by have h := HS9.out; rw [show textTok [] = [] from rfl, List.append_nil, List.append_assoc] at h; exact h⟩⟩
      | false =>
        obtain ⟨⟨⟨nm, vl, B3⟩, r3⟩, hax⟩ : ∃ x, x = attrX d := ⟨_, rfl⟩
        have HAX := Lib.hid hax
        clear hax
        cases B3 with
        | false =>
          have HX : Hid (opnX l = none) := Lib.hid (open_bad (by rw [← HOF.out]; exact opnF_bad HB1.out.symm (by rw [← HD.out]; exact HB2.out.symm) (by rw [← HD.out, ← HAX.out])))
          go_wp2_with (first | (go_at_call 61; have kb := blanks_any HR.out; rw [← HB1.out] at kb; refine kb.mono ?_; rintro e wb ⟨rfl, hrb, hkb⟩; rw [← HD.out] at hrb; have HRB := Lib.hid hrb; have HOB := Lib.hid (HO.out.trans (Off.step hkb) fun _ h => .inl h); have BTB := Lib.hid (BT.out.keepsR hkb HTG.out); have ARB := Lib.hid (row_keepsR AR.out hkb HGW.out); clear kb hrb hkb) | (go_at_call 63; have ke := atEnd_any HRB.out; rw [← HB2.out] at ke; refine ke.mono ?_; rintro e we ⟨rfl, rfl⟩; clear ke) | (go_at_call 64; have ka := attr_any HRB.out HDL.out (HSG.out.off HOB.out HG.out) HG.out; rw [← HAX.out] at ka; refine ka.mono ?_; rintro e w2 ⟨rfl, hr2, hk2⟩; have HR2 : Hid (RdrAt w2 g r3 tk p bf) := Lib.hid hr2; have HO2 := Lib.hid (HOB.out.trans (Off.step hk2) fun _ h => .inl h); have BT2 := Lib.hid (BTB.out.keepsR hk2 HTG.out); have AR2 := Lib.hid (row_keepsR ARB.out hk2 HGW.out); clear ka hr2 hk2))
          go_ret
          exact ⟨by rw [HX.out]; rfl, wide1 (HO2.out.trans (Off.below (F := fun _ => False) ((Below.refl _ _).alloc (Nat.le_refl _) _)) fun _ h => h.elim), fun L c rest h => by rw [HX.out] at h; cases h⟩
        | true =>
          have HYES := Lib.hid (attrX_yes (l := d) (by rw [← HAX.out]))
          have HLT : Hid (r3.length < lr.length) := Lib.hid (by have h := HYES.out.1; rw [← HAX.out] at h; have := dropB_len lr; rw [← HD.out] at this; exact Nat.lt_of_lt_of_le h this)
          have HST : Hid (opnF m r3 (L ++ [(nm, vl)]) = opnF ((tailX l).length + 1) (tailX l) []) := Lib.hid (by
            rw [← HOF.out, opnF_more HB1.out.symm (by rw [← HD.out]; exact HB2.out.symm) (by rw [← HD.out, ← HAX.out]), ← HD.out, ← HAX.out])
          have HML : Hid (r3.length < m) := Lib.hid (by have := HLT.out; have := HLN.out; omega)
          have HSUM : Hid (r3.length + (L ++ [(nm, vl)]).length ≤ (tailX l).length) := Lib.hid (by have := HLT.out; have := HSU.out; rw [List.length_append, List.length_singleton]; omega)
          have HLO2 : Hid (LensOk (L ++ [(nm, vl)])) := Lib.hid (by
            intro a ha
            rcases List.mem_append.1 ha with ha | ha
            · exact HLO.out a ha
            · rw [List.mem_singleton.1 ha]
              have h := HYES.out.2
              rw [← HAX.out] at h
              show nm.length ≤ 1000000
              rw [show nm = nameIn d from h]
              exact Nat.le_trans (nameIn_len d) HDL.out)
          have HNL : Hid (N ≤ 1000000) := Lib.hid (by have := HSU.out; have := HTL.out; have := HN.out; omega)
          have HMEAS : Hid (∀ W, RdrAt W g r3 tk p bf → restLen W g < restLen wr g) := Lib.hid fun W h => by rw [restLen_at h, HME.out]; exact HLT.out
          go_wp2_with (first | (go_at_call 61; have kb := blanks_any HR.out; rw [← HB1.out] at kb; refine kb.mono ?_; rintro e wb ⟨rfl, hrb, hkb⟩; rw [← HD.out] at hrb; have HRB := Lib.hid hrb; have HOB := Lib.hid (HO.out.trans (Off.step hkb) fun _ h => .inl h); have BTB := Lib.hid (BT.out.keepsR hkb HTG.out); have ARB := Lib.hid (row_keepsR AR.out hkb HGW.out); clear kb hrb hkb) | (go_at_call 63; have ke := atEnd_any HRB.out; rw [← HB2.out] at ke; refine ke.mono ?_; rintro e we ⟨rfl, rfl⟩; clear ke) | (go_at_call 64; have ka := attr_any HRB.out HDL.out (HSG.out.off HOB.out HG.out) HG.out; rw [← HAX.out] at ka; refine ka.mono ?_; rintro e w2 ⟨rfl, hr2, hk2⟩; have HR2 : Hid (RdrAt w2 g r3 tk p bf) := Lib.hid hr2; have HO2 := Lib.hid (HOB.out.trans (Off.step hk2) fun _ h => .inl h); have BT2 := Lib.hid (BTB.out.keepsR hk2 HTG.out); have AR2 := Lib.hid (row_keepsR ARB.out hk2 HGW.out); have BT3 : Hid (Blk (w2.alloc (.cells #[.string (str nm), .string (str vl)] 39)) tb 36 #[.int .i64 1, .string (str (nameIn l)), .slice A N c, .string ⟨#[]⟩]) := Lib.hid (BT2.out.alloc _); have HSZ3 : Hid (w2.heap.size ≤ (w2.alloc (.cells #[.string (str nm), .string (str vl)] 39)).heap.size) := Lib.hid ((Below.refl _ _).alloc (Nat.le_refl _) _ : Below w2.heap.size w2 (w2.alloc (.cells #[.string (str nm), .string (str vl)] 39))).size; have HB4x : Hid (Below w2.heap.size w2 ((w2.alloc (.cells #[.string (str nm), .string (str vl)] 39)).alloc (.cells #[.string (str nm), .string (str vl)] 39))) := Lib.hid (((Below.refl _ _).alloc (Nat.le_refl _) _).alloc HSZ3.out _); have AR4 : Hid (((w2.alloc (.cells #[.string (str nm), .string (str vl)] 39)).alloc (.cells #[.string (str nm), .string (str vl)] 39)).ownsRow w.heap.size 39 2 (.slice A N c) N (acells L)) := Lib.hid (ownsRow_blk AR2.out fun k hk => HB4x.out.block k (World.ownsRow.lt AR2.out k hk).2); have BF3 : Hid (Blk (w2.alloc (.cells #[.string (str nm), .string (str vl)] 39)) w2.heap.size 39 #[.string (str nm), .string (str vl)]) := Lib.hid (Blk.fresh _ _ _); have BF4 : Hid (Blk ((w2.alloc (.cells #[.string (str nm), .string (str vl)] 39)).alloc (.cells #[.string (str nm), .string (str vl)] 39)) (w2.heap.size + 1) 39 #[.string (str nm), .string (str vl)]) := Lib.hid (by have h := Blk.fresh (w2.alloc (.cells #[.string (str nm), .string (str vl)] 39)) 39 #[.string (str nm), .string (str vl)]; rw [show (w2.alloc (.cells #[.string (str nm), .string (str vl)] 39)).heap.size = w2.heap.size + 1 by simp] at h; exact h); have x3 : (w2.alloc (.cells #[.string (str nm), .string (str vl)] 39)).cell? ⟨tb, 2, none⟩ = some (.slice A N c) := BT3.out.cell 2; have y0 : (w2.alloc (.cells #[.string (str nm), .string (str vl)] 39)).cell? ⟨w2.heap.size, 0, none⟩ = some (.string (str nm)) := BF3.out.cell 0; have y1 : (w2.alloc (.cells #[.string (str nm), .string (str vl)] 39)).cell? ⟨w2.heap.size, 1, none⟩ = some (.string (str vl)) := BF3.out.cell 1; clear ka hr2 hk2) | (at_builtin; go_must (refine wpList_append_w _ (by rfl) (.tmp 25) (.tmp 27) 34 (by rfl) w.heap.size 39 (.agg #[.string ⟨#[]⟩, .string ⟨#[]⟩]) 2 32 Tryd.underlying34 Tryd.attrinfo (by rfl) (by decide) _ _ _ (by rfl) (by exact AR4.out) _ _ _ (by rfl) (by exact attr_one BF4.out) (by simp [Value.oneCell']) (by have := HNL.out; unfold maxLen; omega) (by have := HNL.out; omega) (by have := HO2.out.2.2.2.1; have := HB4x.out.size; omega) ?_); intro v9 w9 o9 g9 a9; have O9 := Lib.hid o9; have G9 := Lib.hid g9; clear o9 g9 a9; have q9 : Off (fun k => (Value.slice A N c).ownBlock = some k) ((w2.alloc (.cells #[.string (str nm), .string (str vl)] 39)).alloc (.cells #[.string (str nm), .string (str vl)] 39)) w9 := Off.grown G9.out fun k hk => hk; have HQ9 : Hid (Off (fun k => (Value.slice A N c).ownBlock = some k) w2 w9) := Lib.hid ((Off.below (F := fun k => (Value.slice A N c).ownBlock = some k) HB4x.out).trans q9 fun k hk => .inl hk); have bt9 : Blk w9 tb 36 #[.int .i64 1, .string (str (nameIn l)), .slice A N c, .string ⟨#[]⟩] := (HQ9.out.2.2.2.2 tb BT2.out.lt fun hk => row_neB AR2.out BT2.out (by decide) tb hk rfl).trans BT2.out; have x9 : w9.cell? ⟨tb, 2, none⟩ = some (.slice A N c) := bt9.cell 2; have z9 : w9.frozen? ⟨tb, 2, none⟩ = false := bt9.free 2; clear x3 y0 y1 q9 bt9; obtain ⟨A5, c5, hv9, z5⟩ := ownsRow_shape O9.out; clear z5; obtain ⟨N5, hN5⟩ : ∃ N5, N5 = N + 1 := ⟨_, rfl⟩; rw [← hN5] at hv9; have HN5 := Lib.hid hN5; clear hN5; subst hv9))
          have hpush := attr_push (a := (nm, vl)) HGW.out HTB.out HR2.out HO2.out BT2.out (HARV.out _ AR2.out) HQ9.out (by rw [← HN.out]; exact O9.out)
          have HPU := Lib.hid hpush
          clear hpush
          go_roundw
          case rel => exact ⟨m, r3, L ++ [(nm, vl)], .slice A5 N5 c5, HST.out, HML.out, HSUM.out, HLO2.out, HPU.out.1, HPU.out.2.1, HPU.out.2.2.1, HPU.out.2.2.2⟩
          case measure => exact HMEAS.out _ HPU.out.1
end Go.Proofs.YtelhdkidnhfnbaaDoor
