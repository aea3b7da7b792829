/-
  The document's disk: Clone. Condition: there are at most a million files.
-/
import Derived.Test.YtincdegoiknfhabJLaw
namespace Go.Proofs.Ytincdegoiknfhab
open Go.RowKit

theorem diskSize : (Try.prog.info? 67).map (·.size) = some 5 := by kernel_rfl
theorem wpList_store_disk {ops : Array Oper} {rest : List Oper} {op : Oper} {a : Act} {w : World} {Q : Exit → Act → World → Prop} (hgd : op.guard = none) (x z : Operand) (ho : op.op = .store 67 x z)
    (b : Nat) (a0 a1 a2 a3 a4 : Value) (A : Option Addr) (n c : Nat) (i1 i2 i4 : Int) (o : Bool) (hx : a.eval x = .pointer (some ⟨b, 0, none⟩)) (hy : a.eval z = .agg #[.slice A n c, .int .i64 i1, .int .i64 i2, .bool o, .int .i64 i4])
    (hb : Blk w b 67 #[a0, a1, a2, a3, a4])
    (hn : ∀ w', Blk w' b 67 #[.slice A n c, .int .i64 i1, .int .i64 i2, .bool o, .int .i64 i4] → w.grownBy w' (some b) → wpList Try.prog ops Q rest (a.put op.dst undef) w') : wpList Try.prog ops Q (op :: rest) a w := by
  have ht : w.there b 0 5 := fun j hj => ⟨by
    rw [Nat.zero_add, hb.cell j]
    match j, hj with
    | 0, _ => rfl
    | 1, _ => rfl
    | 2, _ => rfl
    | 3, _ => rfl
    | 4, _ => rfl, hb.free _⟩
  refine wpList_store_mid hgd 67 x z ho b 0 #[.slice A n c, .int .i64 i1, .int .i64 i2, .bool o, .int .i64 i4] hx hy ht diskSize (by simp [Value.oneCell']) (hn _ ?_ ?_)
  · exact ((((hb.set 0 (.slice A n c)).set 1 (.int .i64 i1)).set 2 (.int .i64 i2)).set 3 (.bool o)).set 4 (.int .i64 i4)
  · exact (((((World.grownBy.refl w (some b)).trans (grown_set _ b 0 _)).trans (grown_set _ b 1 _)).trans (grown_set _ b 2 _)).trans (grown_set _ b 3 _)).trans (grown_set _ b 4 _)
/-- A disk of its own with the same files. -/
def MadeRC (w : World) (d : RDisk) (e : Ending) (w' : World) : Prop := ∃ g2 v2, e = .returned (.pointer (some ⟨g2, 0, none⟩)) ∧ RDiskAt w' w.heap.size g2 { d with v := v2 } ∧ Below w.heap.size w w'
set_option maxHeartbeats 3200000 in
set_option maxRecDepth 100000 in
theorem rclone {w : World} {lo g : Nat} {d : RDisk} (h : RDiskAt w lo g d) (hE : d.E.length ≤ 1000000) : Calls Try.prog 16 #[.pointer (some ⟨g, 0, none⟩)] w (MadeRC w d) := by
  obtain ⟨A, c, hv, hc1, hc2⟩ := h.vshape
  have x0 : w.cell? ⟨g, 0, none⟩ = some (.slice A d.E.length c) := by rw [← hv]; exact h.2.1.cell 0
  have x1 : w.cell? ⟨g, 1, none⟩ = some (.int .i64 d.q) := h.2.1.cell 1
  have x2 : w.cell? ⟨g, 2, none⟩ = some (.int .i64 d.lasts) := h.2.1.cell 2
  have x3 : w.cell? ⟨g, 3, none⟩ = some (.bool d.off) := h.2.1.cell 3
  have x4 : w.cell? ⟨g, 4, none⟩ = some (.int .i64 d.deeds) := h.2.1.cell 4
  have H := Lib.hid h
  have HV := Lib.hid hv
  have HE := Lib.hid hE
  have HG := Lib.hid h.ltg
  have HRC : Hid (∀ u ∈ rcells d.E, u.oneCell' = true) := Lib.hid (rcells_one h.2.2.2)
  clear h hv hE hc1 hc2
  go_enter Try.func16, Try.ntmps16
  go_wp2_with (first
    | ((with_reducible refine wpList_store_disk rfl (.tmp 3) (.tmp 6) rfl w.heap.size _ _ _ _ _ A d.E.length c d.q d.lasts d.deeds d.off rfl rfl (Blk.fresh _ _ _) ?_); intro w3 hb3 hg3; have hb13 : Below w.heap.size w w3 := ((Below.refl w.heap.size w).alloc (Nat.le_refl _) _).grown hg3 (by simp) (fun k hk => by injection hk with hk; omega); have HB3 := Lib.hid hb13; have B3 := Lib.hid hb3; have hba : Below w.heap.size w (w3.alloc (.cells #[] 78)) := hb13.alloc hb13.size _; have HBA := Lib.hid hba; have y0 : (w3.alloc (.cells #[] 78)).cell? ⟨g, 0, none⟩ = some (.slice A d.E.length c) := by { have h5 := (H.out.below hba).2.1.cell 0; rw [HV.out] at h5; exact h5 }; have HSR : Hid (SrcW (w3.alloc (.cells #[] 78)) 3 (.slice A d.E.length c) d.E.length (rcells d.E)) := Lib.hid (by have h5 := (H.out.below hba).2.2.1; rw [HV.out] at h5; exact srcw_own h5); clear hb3 hg3 hb13 hba x0 x1 x2 x3 x4)
    | (at_builtin; go_must (refine wpList_append_w _ (by rfl) (.tmp 7) (.tmp 11) 65 (by rfl) w3.heap.size 78 (.agg #[.string ⟨#[]⟩, .slice none 0 0, .int .i64 0]) 3 48 Try.underlying65 Try.fileinfo (by rfl) (by decide) _ _ _ (by rfl) (by exact ownsRow_empty _ _ 3 _ rfl) _ _ _ (by rfl) (by exact HSR.out) (by exact HRC.out) (by have := HE.out; unfold maxLen; omega) (by have := HE.out; omega) (by simp) ?_); intro v6 w6 hown6 hg6 hat6; rw [Nat.zero_add, List.nil_append] at hown6; obtain ⟨A6, c6, hv6, z6⟩ := ownsRow_shape hown6; clear z6; subst hv6; have OW := Lib.hid hown6; have hb36 : Below w3.heap.size w3 w6 := ((Below.refl _ _).alloc (Nat.le_refl _) _).grown hg6 (by simp) (fun k hk => by have h7 : some w3.heap.size = some k := hk; injection h7 with h7; omega); have HB36 := Lib.hid hb36; have hbk := B3.out.below hb36 B3.out.lt; have B6 := Lib.hid hbk; have t0 : w6.cell? ⟨w.heap.size, 0, none⟩ = some (.slice A d.E.length c) := hbk.cell 0; have t1 := hbk.free 0; clear hown6 hg6 hat6 hb36 hbk y0))
  go_ret
  have hbt : Below w.heap.size w w6 := HB3.out.trans (HB36.out.mono HB3.out.size)
  have hs3 : w.heap.size < w3.heap.size := B3.out.lt
  have hset : Below w.heap.size w (w6.setCell ⟨w.heap.size, 0, none⟩ (.slice A6 d.E.length c6)) := hbt.grown (grown_set w6 w.heap.size 0 _) hbt.size (fun k hk => by injection hk with hk; omega)
  have hne : ∀ k, k ≠ w.heap.size → (w6.setCell ⟨w.heap.size, 0, none⟩ (.slice A6 d.E.length c6)).heap[k]? = w6.heap[k]? := fun k hk => Below.heap_setCell _ _ _ _ hk
  refine ⟨w.heap.size, .slice A6 d.E.length c6, rfl, ⟨Nat.le_refl _, B6.out.set 0 _, ?_, fun e he => ?_⟩, hset⟩
  · refine ownsRow_more (ownsRow_blk OW.out fun k hk => hne k ?_) (Nat.le_of_lt hs3)
    have := (World.ownsRow.lt OW.out k hk).1
    omega
  · have hf := (H.out.below hset).2.2.2 e he
    exact hf

/-! ### DiskClones' call -/
theorem OpAt.more {w : World} {lo lo2 : Nat} {v : Value} {o : AOp} (h : OpAt w lo v o) (hl : lo ≤ lo2) : OpAt w lo2 v o := by
  obtain ⟨Ad, cd, Ak, ck, h1, h2, h3, h4⟩ := h
  refine ⟨Ad, cd, Ak, ck, h1, h2.mono fun b hb => Nat.lt_of_lt_of_le hb hl, ?_, h4⟩
  obtain ⟨A, c, e1, e2, e3, e4⟩ := h3
  refine ⟨A, c, e1, e2, e3, fun hn => ?_⟩
  obtain ⟨b, o', f1, f2, f3⟩ := e4 hn
  exact ⟨b, o', f1, Nat.lt_of_lt_of_le f2 hl, f3⟩
/-- The clones of both. -/
theorem pair_clone {w w2 w3 : World} {lo g b : Nat} {d : KDisk} {gx : Nat} {x : RDisk} {g2 b2 : Nat} {c : KDisk} {gy : Nat} {v2 : Value} (hP : Pair w lo g b d gx x) (h1 : DiskAt w2 w.heap.size g2 b2 c) (b1 : Below w.heap.size w w2) (h2 : RDiskAt w3 w2.heap.size gy { x with v := v2 }) (b2' : Below w2.heap.size w2 w3) :
    Pair w3 w.heap.size g2 b2 c gy { x with v := v2 } :=
  ⟨h1.below b2', h2.more b1.size, fun k hk hk' => by
    have h3 := h1.lt k hk
    rcases hk' with hk' | hk' | ⟨e, he, hk'⟩
    · have h4 := (h2.rw_lt k (.inl hk')).1; omega
    · have h4 := (h2.rw_lt k (.inr hk')).1; omega
    · have h4 := (hP.2.1.lt k (.inr (.inr ⟨e, he, hk'⟩))).2; omega⟩
def ClonesRel (L : List AOp) (n lo g b gx : Nat) (w : World) (u : Value) (W : World) : Prop := ∃ (i : Nat) (d : KDisk) (x : RDisk), i ≤ L.length ∧ u = .int .i64 (i : Int) ∧ Pair W lo g b d gx x ∧ absD d = absR x ∧ St (n + i) (absD d) ∧ Below lo w W
set_option maxHeartbeats 6400000 in
set_option maxRecDepth 100000 in
theorem dclones_any (v u : Value) (w : World) (hv : RdOpsX w v) (hu : RdOpsX w u) : Calls Try.prog 5 #[v, u] w (Holds w) := by
  obtain ⟨L, hL⟩ := hv
  obtain ⟨M, hM⟩ := hu
  have HL := Lib.hid hL
  have HM := Lib.hid hM
  obtain ⟨A, c, hvv, _⟩ := hL
  obtain ⟨A2, c2, huu, _⟩ := hM
  have HVV := Lib.hid hvv
  have HUU := Lib.hid huu
  have k1 := knew 500 w (by decide) (by decide)
  have K1 := Lib.hid k1
  clear k1
  have early : (largeB L = true ∨ largeB M = true) → Calls Try.prog 5 #[v, u] w (Holds w) := by
    intro hor
    cases hlb : largeB L with
    | true =>
      have HLB := Lib.hid hlb
      clear hlb hor hvv huu
      go_enter Try.func5, Try.ntmps5
      go_wp2_with (first
        | (go_at_call 9; refine K1.out.mono ?_; rintro e w1 ⟨g, b, rfl, hd1, b1⟩; have HB1 := Lib.hid b1; clear hd1 b1)
        | (go_at_call 10; refine (rnew 500 _ (by decide) (by decide)).mono ?_; rintro e w2 ⟨gx, rfl, hx2, b2⟩; have HB2 := Lib.hid (HB1.out.trans (b2.mono HB1.out.size)); clear hx2 b2)
        | (go_at_call 11; go_must (first | (refine (klives_any w3).mono ?_; rintro e w4 ⟨rfl, b4⟩; have HB4 := Lib.hid (HB3.out.trans (b4.mono HB3.out.size)); clear b4) | (refine (klives_any _).mono ?_; rintro e w3 ⟨rfl, b3⟩; have HB3 := Lib.hid (HB2.out.trans (b3.mono HB2.out.size)); have kl := rlarge HL.out HB3.out; rw [HLB.out] at kl; have KL := Lib.hid kl; clear kl b3)))
        | (go_at_call 12; refine KL.out.mono ?_; rintro e w3 ⟨rfl, rfl⟩))
      go_ret
      exact ⟨rfl, HB4.out⟩
    | false =>
      have HLB := Lib.hid hlb
      have hmb : largeB M = true := hor.elim (fun h => by rw [h] at hlb; cases hlb) id
      have HMB := Lib.hid hmb
      clear hlb hor hvv huu hmb
      go_enter Try.func5, Try.ntmps5
      go_wp2_with (first
        | (go_at_call 9; refine K1.out.mono ?_; rintro e w1 ⟨g, b, rfl, hd1, b1⟩; have HB1 := Lib.hid b1; clear hd1 b1)
        | (go_at_call 10; refine (rnew 500 _ (by decide) (by decide)).mono ?_; rintro e w2 ⟨gx, rfl, hx2, b2⟩; have HB2 := Lib.hid (HB1.out.trans (b2.mono HB1.out.size)); clear hx2 b2)
        | (go_at_call 11; go_must (first | (refine (klives_any w3).mono ?_; rintro e w4 ⟨rfl, b4⟩; have HB4 := Lib.hid (HB3.out.trans (b4.mono HB3.out.size)); clear b4) | (refine (klives_any _).mono ?_; rintro e w3 ⟨rfl, b3⟩; have HB3 := Lib.hid (HB2.out.trans (b3.mono HB2.out.size)); have kl := rlarge HL.out HB3.out; rw [HLB.out] at kl; have KL := Lib.hid kl; have km := rlarge HM.out HB3.out; rw [HMB.out] at km; have KM := Lib.hid km; clear kl km b3)))
        | (go_at_call 12; first | (refine KL.out.mono ?_; rintro e w3 ⟨rfl, rfl⟩; clear KL) | (refine KM.out.mono ?_; rintro e w3 ⟨rfl, rfl⟩)))
      go_ret
      exact ⟨rfl, HB4.out⟩
  by_cases hor : largeB L = true ∨ largeB M = true
  · exact early hor
  · have hlb : largeB L = false := by cases h : largeB L with | false => rfl | true => exact (hor (.inl h)).elim
    have hmb : largeB M = false := by cases h : largeB M with | false => rfl | true => exact (hor (.inr h)).elim
    have HLB := Lib.hid hlb
    have HMB := Lib.hid hmb
    have HSL := Lib.hid (not_large hlb)
    have HSM := Lib.hid (not_large hmb)
    have hl150 : L.length ≤ 150 := (not_large hlb).1
    have hm150 : M.length ≤ 150 := (not_large hmb).1
    subst hvv huu
    clear hlb hmb hor early
    go_enter Try.func5, Try.ntmps5
    go_wp2_with (first
      | (go_at_call 9; refine K1.out.mono ?_; rintro e w1 ⟨g, b, rfl, hd1, b1⟩; have HD1 := Lib.hid hd1; have HB1 := Lib.hid b1; clear hd1 b1)
      | (go_at_call 10; refine (rnew 500 _ (by decide) (by decide)).mono ?_; rintro e w2 ⟨gx, rfl, hx2, b2⟩; have HP2 := Lib.hid (pair_new HD1.out HB1.out hx2 b2); have HB2 := Lib.hid (HB1.out.trans (b2.mono HB1.out.size)); clear hx2 b2)
      | (go_at_call 11; refine (klives_any _).mono ?_; rintro e w3 ⟨rfl, b3⟩; have HP3 := Lib.hid (HP2.out.below b3); have HB3 := Lib.hid (HB2.out.trans (b3.mono HB2.out.size)); have kl := rlarge HL.out HB3.out; rw [HLB.out] at kl; have KL := Lib.hid kl; have km := rlarge HM.out HB3.out; rw [HMB.out] at km; have KM := Lib.hid km; clear kl km b3)
      | (go_at_call 12; first | (refine KL.out.mono ?_; rintro e w3 ⟨rfl, rfl⟩; clear KL) | (refine KM.out.mono ?_; rintro e w3 ⟨rfl, rfl⟩)))
    go_loopw [8] (ClonesRel L 0 w.heap.size g b gx w) (fun u _ => L.length - (intOf u).toNat)
    case atStart => exact ⟨0, newD 500, newR 500, Nat.zero_le _, rfl, HP3.out, rfl, st_zero 500, HB3.out⟩
    case round =>
      obtain ⟨i, d, x, hil, rfl, hp, hab, hst, hbw⟩ := hrel
      have HP := Lib.hid hp
      have HAB := Lib.hid hab
      have HST := Lib.hid hst
      have HBW := Lib.hid hbw
      clear hp hab hst hbw
      by_cases hlt : i < L.length
      · obtain ⟨bo, o, c', Ad, cd, Ak, ck, hv2, hcc, x0, x1, x2, x3, x4, x5, hn, hop⟩ := HL.out.at_ HBW.out hlt
        injection hv2 with e1 _ e3
        subst e1 e3
        have hiI : (i : Int) < (L.length : Int) := by omega
        have hsm := HSL.out.2 _ (List.getElem_mem hlt)
        have hwf := HST.out.wf (by omega)
        have hst2 := st_step HST.out hsm hn
        have HSM2 := Lib.hid hsm
        have HWF := Lib.hid hwf
        have HST2 := Lib.hid hst2
        have HOP := Lib.hid hop
        clear hn hop hsm hwf hst2
        generalize L[i] = p at *
        have kd := rdo HP.out HAB.out HWF.out.1 HWF.out.2 HOP.out (by have := HSM2.out.2.1; omega) (by have := HSM2.out.2.2; omega) (by have := HSM2.out.1; omega)
        have KD := Lib.hid kd
        clear kd
        go_wp2_with (go_at_call 13; refine KD.out.mono ?_; rintro e w5 ⟨rfl, b5, d5, x5', hp5, ha5, hx5⟩; have HP5 := Lib.hid hp5; have HA5 := Lib.hid ha5; have HX5 := Lib.hid hx5; have HB5 := Lib.hid (HBW.out.trans b5); clear hp5 ha5 hx5 b5 x0 x1 x2 x3 x4 x5)
        go_roundw
        case rel => exact ⟨i + 1, d5, x5', by omega, by go_num, HP5.out, by rw [HA5.out, HX5.out], by rw [HA5.out]; exact HST2.out, HB5.out⟩
        case measure => simp [intOf]; omega
      · have hke : i = L.length := by omega
        subst hke
        have hwf := HST.out.wf (by omega)
        have HWF := Lib.hid hwf
        have kc := yclone HP.out.1 rfl HWF.out.1 HWF.out.2
        have KC := Lib.hid kc
        have HXL : Hid (x.E.length ≤ 1000000) := Lib.hid (wf_len (by rw [← HAB.out]; exact HWF.out.1))
        have HLO : Hid (w.heap.size ≤ wr.heap.size) := Lib.hid HBW.out.size
        clear hwf kc
        obtain ⟨we, hwe⟩ : ∃ we, we = wr := ⟨_, rfl⟩
        subst hwe
        go_wp2_with (first
          | (go_at_call 15; refine KC.out.mono ?_; rintro e w5 ⟨g2, b2, c5, rfl, hd5, ha5, hb5⟩; have HD5 := Lib.hid hd5; have HA5 := Lib.hid ha5; have HB5 := Lib.hid hb5; have kx := rclone ((HP.out.below hb5).2.1) HXL.out; have KX := Lib.hid kx; clear hd5 ha5 hb5 kx)
          | (go_at_call 16; refine KX.out.mono ?_; rintro e w6 ⟨g6, v6, rfl, hd6, hb6⟩; have HP6 := Lib.hid (pair_clone HP.out HD5.out HB5.out hd6 hb6); have HB6 := Lib.hid (HB5.out.trans (hb6.mono HB5.out.size)); clear hd6 hb6))
        go_loopw [11] (ClonesRel M L.length we.heap.size g2 b2 g6 we) (fun u _ => M.length - (intOf u).toNat)
        case atStart => exact ⟨0, c5, { x with v := v6 }, Nat.zero_le _, rfl, HP6.out, by rw [HA5.out, HAB.out]; rfl, by rw [HA5.out]; have h9 := HST.out; rw [Nat.zero_add] at h9; exact h9, HB6.out⟩
        case round =>
          obtain ⟨i, c7, y, hil, rfl, hp, hab, hst, hbw⟩ := hrel
          have HP7 := Lib.hid hp
          have HAB7 := Lib.hid hab
          have HST7 := Lib.hid hst
          have HBW7 := Lib.hid hbw
          clear hp hab hst hbw
          by_cases hlt : i < M.length
          · obtain ⟨bo, o, c', Ad, cd, Ak, ck, hv2, hcc, x0, x1, x2, x3, x4, x5, hn, hop⟩ := HM.out.at_ (HBW.out.trans (HBW7.out.mono HLO.out)) hlt
            injection hv2 with e1 _ e3
            subst e1 e3
            have hiI : (i : Int) < (M.length : Int) := by omega
            have hsm := HSM.out.2 _ (List.getElem_mem hlt)
            have hwf := HST7.out.wf (by omega)
            have hst2 := st_step HST7.out hsm hn
            have HSM2 := Lib.hid hsm
            have HWF7 := Lib.hid hwf
            have HST2 := Lib.hid hst2
            have HOP := Lib.hid (hop.more HLO.out)
            clear hn hop hsm hwf hst2
            generalize M[i] = p at *
            have kd := rdo HP7.out HAB7.out HWF7.out.1 HWF7.out.2 HOP.out (by have := HSM2.out.2.1; omega) (by have := HSM2.out.2.2; omega) (by have := HSM2.out.1; omega)
            have KD := Lib.hid kd
            clear kd
            go_wp2_with (go_at_call 13; refine KD.out.mono ?_; rintro e w8 ⟨rfl, b8, d8, x8', hp8, ha8, hx8⟩; have HP8 := Lib.hid hp8; have HA8 := Lib.hid ha8; have HX8 := Lib.hid hx8; have HB8 := Lib.hid (HBW7.out.trans b8); clear hp8 ha8 hx8 b8 x0 x1 x2 x3 x4 x5)
            go_roundw
            case rel => exact ⟨i + 1, d8, x8', by omega, by go_num, HP8.out, by rw [HA8.out, HX8.out], by rw [HA8.out]; exact HST2.out, HB8.out⟩
            case measure => simp [intOf]; omega
          · have hke : i = M.length := by omega
            subst hke
            have hwf := HST7.out.wf (by omega)
            have ka := ralike HP7.out HAB7.out hwf.1 hwf.2
            have KA := Lib.hid ka
            clear hwf ka
            go_wp2_with (first
              | (go_at_call 14; first
                  | (refine KA.out.mono ?_; rintro e w8 ⟨rfl, b8⟩; have HB8 := Lib.hid (HBW7.out.trans (b8.mono HBW7.out.size)); have kb := ralike (HP.out.below HB8.out) HAB.out HWF.out.1 HWF.out.2; have KB := Lib.hid kb; clear b8 kb KA)
                  | (refine KB.out.mono ?_; rintro e w9 ⟨rfl, b9⟩; have HB9 := Lib.hid (HB8.out.trans (b9.mono HB8.out.size)); clear b9)))
            go_ret
            exact ⟨rfl, HBW.out.trans (HB9.out.mono HLO.out)⟩
end Go.Proofs.Ytincdegoiknfhab
