/-
  Crash: the files cut in the order of their names. Conditions as in Names.
-/
import Derived.Test.YtincdegoiknfhabKClone
namespace Go.Proofs.Ytincdegoiknfhab
open Go.RowKit

/-! ### in plain words -/
def cutA (f : AFile) (kept : Int) : AFile := ⟨f.name, f.bytes.take (f.safe + (max 0 (min kept ((f.bytes.length : Int) - (f.safe : Int)))).toNat), f.safe + (max 0 (min kept ((f.bytes.length : Int) - (f.safe : Int)))).toNat⟩
def crash2 : List AFile → List Int → List AFile × List Int
  | [], ks => ([], ks)
  | f :: r, ks => if f.safe = f.bytes.length then (f :: (crash2 r ks).1, (crash2 r ks).2) else (cutA f (ks.headD 0) :: (crash2 r ks.tail).1, (crash2 r ks.tail).2)
def crashA (d : ADisk) (ks : List Int) : ADisk := { d with off := false, lasts := -1, L := (crash2 d.L ks).1 }
theorem crash2_snoc (f : AFile) : ∀ (L : List AFile) (ks : List Int), crash2 (L ++ [f]) ks = if f.safe = f.bytes.length then ((crash2 L ks).1 ++ [f], (crash2 L ks).2) else ((crash2 L ks).1 ++ [cutA f ((crash2 L ks).2.headD 0)], (crash2 L ks).2.tail)
  | [], ks => by
    show crash2 [f] ks = _
    unfold crash2
    split <;> rfl
  | x :: r, ks => by
    rw [List.cons_append, crash2, crash2]
    split
    · rw [crash2_snoc f r ks]
      split <;> rfl
    · rw [crash2_snoc f r ks.tail]
      split <;> rfl
theorem crash2_len : ∀ (L : List AFile) (ks : List Int), (crash2 L ks).1.length = L.length
  | [], _ => rfl
  | x :: r, ks => by
    rw [crash2]
    split
    · rw [List.length_cons, List.length_cons, crash2_len r ks]
    · rw [List.length_cons, List.length_cons, crash2_len r ks.tail]
theorem crash2_names : ∀ (L : List AFile) (ks : List Int), (crash2 L ks).1.map AFile.name = L.map AFile.name
  | [], _ => rfl
  | x :: r, ks => by
    rw [crash2]
    split
    · rw [List.map_cons, List.map_cons, crash2_names r ks]
    · rw [List.map_cons, List.map_cons, crash2_names r ks.tail]
      rfl
theorem cut_abs (e : KEnt) (kept : Int) (v : Value) : absF (cutE e kept v) = cutA (absF e) kept := rfl
/-- The file at a place, found by its name. -/
theorem atE_at {E : List KEnt} (h : E.Pairwise fun e f => e.name ≠ f.name) {k : Nat} (hk : k < E.length) : atE E E[k].name = some E[k] := by
  cases he : atE E E[k].name with
  | none =>
    unfold atE at he
    rw [List.find?_eq_none] at he
    have := he E[k] (List.getElem_mem hk)
    simp at this
  | some f =>
    obtain ⟨hm, hn⟩ := atE_mem he
    rw [mem_name h hm (List.getElem_mem hk) hn]
theorem updA_id {f : AFile} {L : List AFile} (h : ∀ x ∈ L, x.name ≠ f.name) : updA f L = L := by
  unfold updA
  have : ∀ x ∈ L, (if x.name = f.name then f else x) = x := fun x hx => if_neg (h x hx)
  rw [List.map_congr_left this, List.map_id']
/-- One file of a row with other names turned. -/
theorem updA_mid {f f' : AFile} {A B : List AFile} (hn : f'.name = f.name) (h : (A ++ f :: B).Pairwise fun a b => a.name ≠ b.name) : updA f' (A ++ f :: B) = A ++ f' :: B := by
  rw [List.pairwise_append, List.pairwise_cons] at h
  obtain ⟨h1, ⟨h2, h3⟩, h4⟩ := h
  have e1 : updA f' (A ++ f :: B) = updA f' A ++ (if f.name = f'.name then f' else f) :: updA f' B := by
    unfold updA
    rw [List.map_append, List.map_cons]
  rw [e1, if_pos hn.symm, updA_id fun x hx => by rw [hn]; exact h4 x hx f (by simp), updA_id fun x hx => by rw [hn]; exact fun e => h2 x hx e.symm]

/-- One file more: it is safe whole, or it is cut. -/
theorem crash_same {E E' : List KEnt} {k : Nat} (hlt : k < E.length) {ks : List Int} {e : KEnt} (hL : E'.map absF = (crash2 ((E.map absF).take k) ks).1 ++ (E.map absF).drop k) (hek : absF e = absF E[k]) (hs : e.safe = e.bytes.length) :
    E'.map absF = (crash2 ((E.map absF).take (k + 1)) ks).1 ++ (E.map absF).drop (k + 1) ∧ (crash2 ((E.map absF).take (k + 1)) ks).2 = (crash2 ((E.map absF).take k) ks).2 := by
  have htk : (E.map absF).take k ++ [absF E[k]] = (E.map absF).take (k + 1) := by
    rw [List.take_succ_eq_append_getElem (by rw [List.length_map]; exact hlt), List.getElem_map]
  have hdrop : (E.map absF).drop k = absF E[k] :: (E.map absF).drop (k + 1) := by
    rw [List.drop_eq_getElem_cons (by rw [List.length_map]; exact hlt), List.getElem_map]
  have hs' : (absF E[k]).safe = (absF E[k]).bytes.length := by rw [← hek]; exact hs
  rw [← htk, crash2_snoc, if_pos hs']
  refine ⟨?_, rfl⟩
  rw [hL, hdrop, List.append_assoc]
  rfl
theorem crash_cut {E E' : List KEnt} {k : Nat} (hlt : k < E.length) {ks : List Int} {e : KEnt} (hL : E'.map absF = (crash2 ((E.map absF).take k) ks).1 ++ (E.map absF).drop k) (hap : E'.Pairwise fun e f => e.name ≠ f.name) (hek : absF e = absF E[k]) (hs : ¬ e.safe = e.bytes.length) (v : Value) :
    (updE (cutE e ((crash2 ((E.map absF).take k) ks).2.headD 0) v) E').map absF = (crash2 ((E.map absF).take (k + 1)) ks).1 ++ (E.map absF).drop (k + 1) ∧ (crash2 ((E.map absF).take (k + 1)) ks).2 = (crash2 ((E.map absF).take k) ks).2.tail := by
  have htk : (E.map absF).take k ++ [absF E[k]] = (E.map absF).take (k + 1) := by
    rw [List.take_succ_eq_append_getElem (by rw [List.length_map]; exact hlt), List.getElem_map]
  have hdrop : (E.map absF).drop k = absF E[k] :: (E.map absF).drop (k + 1) := by
    rw [List.drop_eq_getElem_cons (by rw [List.length_map]; exact hlt), List.getElem_map]
  have hs' : ¬ (absF E[k]).safe = (absF E[k]).bytes.length := by rw [← hek]; exact hs
  rw [← htk, crash2_snoc, if_neg hs', updA_abs, cut_abs, hek, hL, hdrop]
  refine ⟨?_, rfl⟩
  rw [updA_mid (by rfl), List.append_assoc]
  · rfl
  · rw [← hdrop, ← hL, List.pairwise_map]
    exact hap

/-! ### what is to be kept, as a slice of numbers -/
/-- The slice value v reads in w as these numbers; what is read lies in a block of A. -/
def RdK (w : World) (A : Nat → Prop) (v : Value) (ks : List Int) : Prop :=
  ∃ Ad c, v = .slice Ad ks.length c ∧ ks.length ≤ c ∧ c ≤ maxLen ∧ (0 < ks.length → ∃ b o, Ad = some ⟨b, o, none⟩ ∧ A b ∧ b < w.heap.size ∧ ∀ j (h : j < ks.length), w.cell? ⟨b, o + j, none⟩ = some (.int .i64 ks[j]))
theorem RdK.off {w w' : World} {A F : Nat → Prop} {v : Value} {ks : List Int} (h : RdK w A v ks) (ho : KeptOff F w w') (hF : ∀ k, A k → ¬ F k) : RdK w' A v ks := by
  obtain ⟨Ad, c, rfl, h1, h2, h3⟩ := h
  refine ⟨Ad, c, rfl, h1, h2, fun hn => ?_⟩
  obtain ⟨b, o, rfl, ha, hb, hc⟩ := h3 hn
  exact ⟨b, o, rfl, ha, Nat.lt_of_lt_of_le hb ho.2.2.2.1, fun j hj => (World.cell?_of_block (w := w) (ho.2.2.2.2 b hb (hF b ha))).trans (hc j hj)⟩
theorem keep_cut (W : World) (b o n c : Nat) (hn : 1 ≤ n) (hc : n ≤ c) :
    (Instr.slice 37 (.slice (some ⟨b, o, none⟩) n c) (some (.int .i64 1)) none none).run Try.prog W = .ok (.slice (some (if c = 1 then ⟨b, o, none⟩ else ⟨b, o + 1, none⟩)) (n - 1) (c - 1)) W := by
  have ht := Try.underlying37
  have ht' : Try.prog.underlying 37 = some (.slice (Try.prog.elem 37)) := by simp [Program.elem, ht]
  have he : Try.prog.elem 37 = 3 := by simp [Program.elem, ht]
  rw [run_slice_l W 37 _ _ _ ht' .i64 1 (by omega) (by omega), he, Try.sizeOf3]
  by_cases h0 : c = 1
  · subst h0
    simp [Result.andThen, sliced]
  · simp [Result.andThen, sliced, Addr.add, h0]
theorem RdK.cons {w : World} {A : Nat → Prop} {v : Value} {k : Int} {r : List Int} (h : RdK w A v (k :: r)) :
    ∃ b o c v', v = .slice (some ⟨b, o, none⟩) (r.length + 1) c ∧ r.length + 1 ≤ c ∧ c ≤ maxLen ∧ w.cell? ⟨b, o, none⟩ = some (.int .i64 k) ∧ (∀ W, (Instr.slice 37 (.slice (some ⟨b, o, none⟩) (r.length + 1) c) (some (.int .i64 1)) none none).run Try.prog W = .ok v' W) ∧ RdK w A v' r := by
  obtain ⟨Ad, c, rfl, h1, h2, h3⟩ := h
  obtain ⟨b, o, rfl, ha, hb, hc⟩ := h3 (by simp)
  rw [List.length_cons] at h1
  refine ⟨b, o, c, _, rfl, h1, h2, ?_, fun W => keep_cut W b o (r.length + 1) c (by omega) h1, ?_⟩
  · have := hc 0 (by simp)
    simpa using this
  · refine ⟨_, c - 1, rfl, by omega, by omega, fun hn => ⟨b, o + 1, ?_, ha, hb, fun j hj => ?_⟩⟩
    · rw [if_neg (by omega)]
    · have := hc (j + 1) (by simp; omega)
      rw [List.getElem_cons_succ] at this
      rw [← this]
      congr 2
      omega
theorem own_at {w : World} {base e : Nat} {A : Option Addr} {n c : Nat} {xs : List Value} (h : Own w base e (.slice A n c) xs) (hn : 0 < xs.length) : ∃ g, A = some ⟨g, 0, none⟩ ∧ base ≤ g ∧ n ≤ c ∧ c ≤ maxLen ∧ n = xs.length ∧ ∀ j (hj : j < xs.length), w.cell? ⟨g, j, none⟩ = some xs[j] := by
  have h' := h
  rcases h.2 with ⟨e1, h0⟩ | ⟨g, cap, cur, e1, hg, hh, hn2, hc, hs, ht⟩
  · omega
  · injection e1 with e1 e2 e3
    subst e1 e2 e3
    refine ⟨g, rfl, hg, hn2, hc, rfl, fun j hj => ?_⟩
    rw [World.ownsRow.cellAt h' j (by omega)]
    simp [hj]

/-! ### the walk -/
def CrashRel (d : KDisk) (lo g b H0 : Nat) (ks : List Int) (w : World) (nv : Value) (u1 u11 : Value) (W : World) : Prop :=
  ∃ k E', k ≤ d.E.length ∧ u11 = .int .i64 (k : Int) ∧ DiskAt W lo g b { d with E := E' } ∧ E'.map absF = (crash2 ((d.E.map absF).take k) ks).1 ++ (d.E.map absF).drop k ∧ RdK W (fun x => ¬ Foot g b d.E x) u1 (crash2 ((d.E.map absF).take k) ks).2 ∧
    KeptOff (Foot g b d.E) w W ∧ (∀ x, Foot g b E' x → Foot g b d.E x) ∧ Own W H0 9 nv (strs (d.E.map KEnt.name))
set_option maxHeartbeats 3200000 in
theorem acrash {w : World} {lo g b : Nat} {d : KDisk} (h : DiskAt w lo g b d) (hE : d.E.length ≤ 1000000) (hu : usedE d.E ≤ 1099511627776) (hnm : ∀ e ∈ d.E, e.name.length ≤ maxLen) (v : Value) (ks : List Int) (hk : RdK w (fun x => ¬ Foot g b d.E x) v ks) :
    Calls Try.prog 29 #[.pointer (some ⟨g, 0, none⟩), v] w (AStep w lo g b d (crashA (absD d) ks) (.tuple #[])) := by
  have k1 := knames h hE
  have K := Lib.hid k1
  have H := Lib.hid h
  have HK := Lib.hid hk
  clear k1 h hk
  go_enter Try.func29, Try.ntmps29
  go_wp2_with fail
  refine K.out.mono ?_
  rintro e w1 ⟨nv, rfl, hown, hb1⟩
  obtain ⟨An, cn, hnv⟩ := own_shape hown
  rw [strs_length, List.length_map] at hnv
  subst hnv
  have HO := Lib.hid hown
  have HB := Lib.hid hb1
  clear hown hb1
  go_wp2_with fail
  go_loopw [1, 11] (CrashRel d lo g b w.heap.size ks w (.slice An d.E.length cn)) (fun _ i _ => d.E.length - (intOf i).toNat)
  case atStart => exact ⟨0, d.E, Nat.zero_le _, rfl, H.out.below HB.out, by simp [crash2], (by show RdK w1 _ v ks; exact HK.out.off (Below.off (F := Foot g b d.E) HB.out) fun _ h => h), Below.off HB.out, fun _ h => h, HO.out⟩
  case round =>
    obtain ⟨k, E', hkl, rfl, hd, hL, hks, hoff, hfs, hown⟩ := hrel
    have HD := Lib.hid hd
    have HL := Lib.hid hL
    have HKS := Lib.hid hks
    have HOF := Lib.hid hoff
    have HFS := Lib.hid hfs
    have HOW := Lib.hid hown
    clear hd hL hks hoff hfs hown
    by_cases hlt : k < d.E.length
    · obtain ⟨gN, rfl, hgN, hnc, hcm, hqq, hcells⟩ := own_at HOW.out (by rw [strs_length, List.length_map]; omega)
      have hlenE : E'.length = d.E.length := by
        have := congrArg List.length HL.out
        rw [List.length_map, List.length_append, crash2_len, List.length_take, List.length_drop, List.length_map] at this
        omega
      have hkE : k < E'.length := by omega
      have hek : absF E'[k] = absF d.E[k] := by
        have h1 : (E'.map absF)[k]'(by rw [List.length_map]; exact hkE) = absF E'[k] := List.getElem_map _
        rw [← h1]
        simp only [HL.out]
        rw [List.getElem_append_right (by rw [crash2_len, List.length_take, List.length_map]; omega)]
        rw [List.getElem_drop]
        have e0 : k + (k - (crash2 ((d.E.map absF).take k) ks).1.length) = k := by rw [crash2_len, List.length_take, List.length_map]; omega
        simp only [e0]
        rw [List.getElem_map]
      have hname : (strs (d.E.map KEnt.name))[k]'(by rw [strs_length, List.length_map]; exact hlt) = .string (str E'[k].name) := by
        unfold strs
        rw [List.getElem_map, List.getElem_map]
        have : E'[k].name = d.E[k].name := congrArg AFile.name hek
        rw [this]
      have x5 : wr.cell? ⟨gN, k, none⟩ = some (.string (str E'[k].name)) := by rw [← hname]; exact hcells k (by rw [strs_length, List.length_map]; exact hlt)
      have hlk := HD.out.2.2.2.1.look E'[k].name (by
        have : E'[k].name = d.E[k].name := congrArg AFile.name hek
        rw [this]; exact hnm _ (List.getElem_mem hlt))
      have hat := atE_at HD.out.2.2.2.1.apart hkE
      have hlk2 : (Instr.lookup 62 (.map (some b)) (.string (str E'[k].name)) false).run Try.prog wr = .ok (.pointer (some ⟨E'[k].g, 0, none⟩)) wr := by
        rw [show atE (KDisk.mk d.q d.deeds d.lasts d.off E').E E'[k].name = some E'[k] from hat] at hlk
        exact hlk
      have hme : E'[k] ∈ E' := List.getElem_mem hkE
      have c1 : wr.cell? ⟨g, 1, none⟩ = some (.map (some b)) := HD.out.2.2.1.cell 1
      have hfe := HD.out.2.2.2.2.1 E'[k] hme
      have HEK := Lib.hid hek
      generalize hee : E'[k] = e at *
      obtain ⟨f1, f2, f3, f4⟩ := id hfe
      obtain ⟨A0, c0', hA0⟩ := row_shape f3
      have y0 : wr.cell? ⟨e.g, 0, none⟩ = some (.slice A0 e.bytes.length c0') := by rw [← hA0]; exact f2.cell 0
      have y1 : wr.cell? ⟨e.g, 1, none⟩ = some (.int .i64 (e.safe : Int)) := f2.cell 1
      have HFE := Lib.hid hfe
      have HME := Lib.hid hme
      have hbl : e.bytes.length ≤ 1099511627776 := by
        have h1 := used_mem (List.getElem_mem hlt)
        have h2 : e.bytes = d.E[k].bytes := congrArg AFile.bytes HEK.out
        rw [h2]; omega
      have HBL := Lib.hid hbl
      have i0 : (0 : Int) ≤ (k : Int) := by omega
      have i1 : (k : Int) < (d.E.length : Int) := by omega
      clear hcm hu hnm hqq
      clear hcells hlenE hkE hek hname hlk hat hme hfe hee f1 f2 f3 f4 hA0 hbl
      by_cases hsafe : e.safe = e.bytes.length
      · have hdec : ((e.safe : Int) == (e.bytes.length : Int)) = true := by rw [hsafe]; simp
        have HS := Lib.hid hsafe
        clear hsafe
        go_wp2_with fail
        go_quiet (fail)
        go_wp2_with fail
        go_roundw
        case rel =>
          have hnx := crash_same hlt HL.out HEK.out HS.out
          exact ⟨k + 1, E', by omega, by go_num, HD.out, hnx.1, by rw [hnx.2]; exact HKS.out, HOF.out, HFS.out, HOW.out⟩
        case measure => simp [intOf]; omega
      · have hdec : ((e.safe : Int) == (e.bytes.length : Int)) = false := by simpa using fun h => hsafe (by omega)
        have HS := Lib.hid hsafe
        clear hsafe
        cases ho : (crash2 ((d.E.map absF).take k) ks).2 with
        | nil =>
          have hks := HKS.out
          rw [ho] at hks
          obtain ⟨Ad, ck, rfl, hk1, hk2, hk3⟩ := hks
          have HO2 := Lib.hid ho
          clear ho hk1 hk2 hk3
          go_wp2_with fail
          go_quiet (fail)
          go_wp2_with fail
          refine (kcut (e := e) (lo := lo) (by exact HFE.out) 0 (by exact HBL.out)).mono ?_
          rintro en w2 ⟨rfl, v2, hf2, hv2, ho2⟩
          have ho3 : KeptOff (fun x => x = e.g) wr w2 := ⟨ho2.1, ho2.2.1, ho2.2.2.1, ho2.2.2.2.1, ho2.2.2.2.2⟩
          have hd2 := HD.out.upd HME.out (e' := cutE e 0 v2) rfl rfl hf2 (ho3.wide fun x hx => .inl hx) (fun x hx => .inl (by rw [← hv2]; exact hx))
          have hnx := crash_cut hlt HL.out HD.out.2.2.2.1.apart HEK.out HS.out v2
          rw [HO2.out] at hnx
          have hfe : Foot g b d.E e.g := HFS.out e.g (.inr (.inr ⟨e, HME.out, .inl rfl⟩))
          have hown2 : Own w2 w.heap.size 9 (.slice (some ⟨gN, 0, none⟩) d.E.length cn) (strs (d.E.map KEnt.name)) := HOW.out.blk fun x hx => by
            obtain ⟨cur, hc⟩ := HOW.out.rowAt x hx
            exact ho3.2.2.2.2 x (World.ownsRow.lt HOW.out x hx).2 (cells_ne hc HFE.out.2.1 (by decide))
          have HZ := Lib.hid (And.intro hd2 (And.intro hnx (And.intro hfe (And.intro hown2 (And.intro ho3 hv2)))))
          clear hd2 hnx hfe hown2 ho3 hv2 hf2 ho2
          go_wp2_with fail
          go_roundw
          case rel =>
            refine ⟨k + 1, _, by omega, by go_num, HZ.out.1, HZ.out.2.1.1, ?_, HOF.out.trans (HZ.out.2.2.2.2.1.wide (G := Foot g b d.E) fun x hx => by rw [hx]; exact HZ.out.2.2.1) (fun x hx => .inl hx), ?_, HZ.out.2.2.2.1⟩
            · rw [HZ.out.2.1.2]
              exact RdK.off (by have := HKS.out; rw [HO2.out] at this; exact this) HZ.out.2.2.2.2.1 fun x hx hxe => hx (by rw [hxe]; exact HZ.out.2.2.1)
            · intro x hx
              rcases foot_upd HME.out (by rfl) hx with h | h
              · exact HFS.out x h
              · exact HFS.out x (.inr (.inr ⟨e, HME.out, .inr (by rw [← HZ.out.2.2.2.2.2]; exact h)⟩))
          case measure => simp [intOf]; omega
        | cons q r =>
          obtain ⟨bk, ok, ck, vk, rfl, hk1, hk2, hk3, hk4, hk5⟩ := RdK.cons (by rw [← ho]; exact HKS.out)
          have HO2 := Lib.hid ho
          have HK5 := Lib.hid hk5
          have j0 : (0 : Int) < (r.length : Int) + 1 := by omega
          clear ho hk2 hk5
          go_wp2_with fail
          go_quiet (fail)
          go_wp2_with fail
          go_quiet (fail)
          go_wp2_with fail
          refine (kcut (e := e) (lo := lo) (by exact HFE.out) q (by exact HBL.out)).mono ?_
          rintro en w2 ⟨rfl, v2, hf2, hv2, ho2⟩
          have ho3 : KeptOff (fun x => x = e.g) wr w2 := ⟨ho2.1, ho2.2.1, ho2.2.2.1, ho2.2.2.2.1, ho2.2.2.2.2⟩
          have hd2 := HD.out.upd HME.out (e' := cutE e q v2) rfl rfl hf2 (ho3.wide fun x hx => .inl hx) (fun x hx => .inl (by rw [← hv2]; exact hx))
          have hnx := crash_cut hlt HL.out HD.out.2.2.2.1.apart HEK.out HS.out v2
          rw [HO2.out] at hnx
          have hfe : Foot g b d.E e.g := HFS.out e.g (.inr (.inr ⟨e, HME.out, .inl rfl⟩))
          have hown2 : Own w2 w.heap.size 9 (.slice (some ⟨gN, 0, none⟩) d.E.length cn) (strs (d.E.map KEnt.name)) := HOW.out.blk fun x hx => by
            obtain ⟨cur, hc⟩ := HOW.out.rowAt x hx
            exact ho3.2.2.2.2 x (World.ownsRow.lt HOW.out x hx).2 (cells_ne hc HFE.out.2.1 (by decide))
          have HZ := Lib.hid (And.intro hd2 (And.intro hnx (And.intro hfe (And.intro hown2 (And.intro ho3 hv2)))))
          clear hd2 hnx hfe hown2 ho3 hv2 hf2 ho2
          go_wp2_with fail
          go_roundw
          case rel =>
            refine ⟨k + 1, _, by omega, by go_num, HZ.out.1, HZ.out.2.1.1, ?_, HOF.out.trans (HZ.out.2.2.2.2.1.wide (G := Foot g b d.E) fun x hx => by rw [hx]; exact HZ.out.2.2.1) (fun x hx => .inl hx), ?_, HZ.out.2.2.2.1⟩
            · rw [HZ.out.2.1.2]
              exact RdK.off HK5.out HZ.out.2.2.2.2.1 fun x hx hxe => hx (by rw [hxe]; exact HZ.out.2.2.1)
            · intro x hx
              rcases foot_upd HME.out (by rfl) hx with h | h
              · exact HFS.out x h
              · exact HFS.out x (.inr (.inr ⟨e, HME.out, .inr (by rw [← HZ.out.2.2.2.2.2]; exact h)⟩))
          case measure => simp [intOf]; omega
    · have hke : k = d.E.length := by omega
      have c3 : wr.cell? ⟨g, 3, none⟩ = some (.int .i64 d.lasts) := HD.out.2.2.1.cell 3
      have f3 : wr.frozen? ⟨g, 3, none⟩ = false := HD.out.2.2.1.free 3
      have c4 : wr.cell? ⟨g, 4, none⟩ = some (.bool d.off) := HD.out.2.2.1.cell 4
      have f4 : wr.frozen? ⟨g, 4, none⟩ = false := HD.out.2.2.1.free 4
      have kc := kclosed HD.out
      have KC := Lib.hid kc
      have HKE := Lib.hid hke
      clear hke kc
      go_wp2_with (go_at_call 43; refine KC.out.mono ?_; rintro e w' ⟨rfl, rfl⟩)
      go_end0
      have hL := HL.out
      rw [HKE.out, List.take_of_length_le (by rw [List.length_map]; omega), List.drop_of_length_le (by rw [List.length_map]; omega), List.append_nil] at hL
      refine ⟨rfl, { d with E := E', off := false, lasts := -1 }, ?_, ?_, ?_, fun x hx => .inl (HFS.out x hx)⟩
      · exact (HD.out.set (d' := { d with E := E', off := false }) 4 _ rfl rfl).set (d' := { d with E := E', off := false, lasts := -1 }) 3 _ rfl rfl
      · unfold absD crashA
        simp only [hL]
      · exact (HOF.out.trans (KeptOff.set (F := Foot g b d.E) _ g 4 _ (.inl rfl)) fun x hx => .inl hx).trans (KeptOff.set (F := Foot g b d.E) _ g 3 _ (.inl rfl)) fun x hx => .inl hx
end Go.Proofs.Ytincdegoiknfhab
