/-
  Rename. Conditions as in Sync.
-/
import Derived.Test.YtincdegoiknfhabKCut
namespace Go.Proofs.Ytincdegoiknfhab
open Go.RowKit

theorem insE_mem {e f : KEnt} : ∀ {E : List KEnt}, f ∈ insE e E → f = e ∨ f ∈ E
  | [], h => .inl (by simpa [insE] using h)
  | x :: r, h => by
    unfold insE at h
    split at h
    · rcases List.mem_cons.1 h with h | h
      · exact .inl h
      · exact .inr h
    · rcases List.mem_cons.1 h with h | h
      · exact .inr (by simp [h])
      · rcases insE_mem h with h | h
        · exact .inl h
        · exact .inr (by simp [h])
theorem insE_pair {e : KEnt} : ∀ {E : List KEnt}, (∀ f ∈ E, KApart e f) → E.Pairwise KApart → (insE e E).Pairwise KApart
  | [], _, _ => by simp [insE]
  | x :: r, h, hp => by
    rw [List.pairwise_cons] at hp
    unfold insE
    split
    · rw [List.pairwise_cons, List.pairwise_cons]
      exact ⟨h, hp⟩
    · rw [List.pairwise_cons]
      refine ⟨fun f hf => ?_, insE_pair (fun f hf => h f (by simp [hf])) hp.2⟩
      rcases insE_mem hf with rfl | hf
      · exact (h x (by simp)).symm
      · exact hp.1 f hf
theorem DiskAt.delMap {w w' : World} {lo g b : Nat} {d : KDisk} (h : DiskAt w lo g b d) (x : List UInt8) (hown : w'.ownsMap Try.prog 9 ptrR b d.E.length ((mapD d.E).del (.string x))) (ht : w.mapTurned w' b) : DiskAt w' lo g b { d with E := delE x d.E } := by
  rw [mapD_del] at hown
  exact h.remap (turned_off ht) (MapAt.resize hown) (fun f hf => h.2.2.2.2.1 f (delE_mem hf).1) (h.2.2.2.2.2.sublist List.filter_sublist)
def renE (E : List KEnt) (e : KEnt) (a b : List UInt8) : List KEnt := putE { e with name := b } (delE a E)
def renameV (d : KDisk) (a b : List UInt8) : Int := if d.off = true then 30 else if nameB b = false then 31 else match atE d.E a with | none => 4 | some _ => spendV d
def renameD (d : KDisk) (a b : List UInt8) : KDisk := if d.off = true then d else if nameB b = false then d else match atE d.E a with | none => d | some e => if d.lasts = 0 then spendD d else { spendD d with E := renE d.E e a b }
set_option maxHeartbeats 1600000 in
theorem krename {w : World} {lo g b : Nat} {d : KDisk} (h : DiskAt w lo g b d) (hw : WfK d) (x y : List UInt8) (hx : x.length ≤ 1099511627776) (hy : y.length ≤ 1099511627776) (hE : d.E.length ≤ 1000000) :
    Calls Try.prog 27 #[.pointer (some ⟨g, 0, none⟩), .string (str x), .string (str y)] w (Step (Foot g b d.E) w lo g b (renameD d x y) (.int .i64 (renameV d x y))) := by
  have hxm : x.length ≤ maxLen := by unfold maxLen; omega
  have hym : y.length ≤ maxLen := by unfold maxLen; omega
  have k1 := kready h
  have H := Lib.hid h
  clear h
  unfold readyV at k1
  unfold renameV renameD
  cases ho : d.off with
  | true =>
    rw [ho, if_pos rfl] at k1
    rw [if_pos rfl, if_pos rfl]
    have K := Lib.hid k1
    clear k1 ho
    go_enter Try.func27, Try.ntmps27
    go_wp2_with (go_at_call 55; refine K.out.mono ?_; rintro e w' ⟨rfl, rfl⟩)
    go_ret
    exact ⟨rfl, H.out, KeptOff.refl _ _⟩
  | false =>
    rw [ho, if_neg Bool.false_ne_true] at k1
    rw [if_neg Bool.false_ne_true, if_neg Bool.false_ne_true]
    have K := Lib.hid k1
    have k2 := fun W => kname y W hy
    cases hn : nameB y with
    | false =>
      rw [if_pos rfl, if_pos rfl]
      rw [hn] at k2
      have K2 := Lib.hid k2
      clear k1 k2 ho hn
      go_enter Try.func27, Try.ntmps27
      go_wp2_with (go_at_call 55; refine K.out.mono ?_; rintro e w' ⟨rfl, rfl⟩)
      refine (K2.out _).mono ?_
      rintro e w1 ⟨rfl, hb⟩
      go_wp2_with fail
      go_ret
      exact ⟨rfl, H.out.below hb, Below.off hb⟩
    | true =>
      rw [if_neg (by decide), if_neg (by decide)]
      rw [hn] at k2
      have K2 := Lib.hid k2
      have k3 := fun W (hW : DiskAt W lo g b d) => kfind hW x hxm
      have k4 := fun W (hW : DiskAt W lo g b d) => kspend hW hw
      unfold findV at k3
      rw [ho, if_neg Bool.false_ne_true] at k3
      clear k1 k2 ho hn
      cases he : atE d.E x with
      | none =>
        rw [he] at k3
        have K3 := Lib.hid k3
        clear k3 he k4
        go_enter Try.func27, Try.ntmps27
        go_wp2_with (go_at_call 55; refine K.out.mono ?_; rintro e w' ⟨rfl, rfl⟩)
        refine (K2.out _).mono ?_
        rintro e w1 ⟨rfl, hb⟩
        have HB := Lib.hid (Below.off (F := Foot g b d.E) hb)
        have HD1 := Lib.hid (H.out.below hb)
        clear hb
        go_wp2_with fail
        refine (K3.out _ HD1.out).mono ?_
        rintro e w2 ⟨rfl, rfl⟩
        go_wp2_with fail
        go_ret
        exact ⟨rfl, HD1.out, HB.out⟩
      | some e =>
        rw [he] at k3
        dsimp only at k3 ⊢
        have K3 := Lib.hid k3
        obtain ⟨hm, hne⟩ := atE_mem he
        have HM := Lib.hid hm
        have HN := Lib.hid hne
        clear k3 he hm hne
        by_cases h0 : d.lasts = 0
        · have hv : spendV d = 30 := by unfold spendV; rw [if_pos h0]
          rw [if_pos h0, hv]
          rw [hv] at k4
          have K5 := Lib.hid k4
          clear k4 h0 hv
          go_enter Try.func27, Try.ntmps27
          go_wp2_with (go_at_call 55; refine K.out.mono ?_; rintro e w' ⟨rfl, rfl⟩)
          refine (K2.out _).mono ?_
          rintro e1 w1 ⟨rfl, hb⟩
          have HB := Lib.hid (Below.off (F := Foot g b d.E) hb)
          have HD1 := Lib.hid (H.out.below hb)
          clear hb
          go_wp2_with fail
          refine (K3.out _ HD1.out).mono ?_
          rintro e2 w2 ⟨rfl, rfl⟩
          go_wp2_with fail
          refine (K5.out _ HD1.out).mono ?_
          rintro e2 w3 ⟨rfl, hd2, ho2⟩
          go_wp2_with fail
          go_ret
          exact ⟨rfl, hd2, HB.out.trans (ho2.wide (G := Foot g b d.E) fun k hk => .inl hk) fun x hx => .inl hx⟩
        · have hv : spendV d = 0 := by unfold spendV; rw [if_neg h0]
          rw [if_neg h0, hv]
          rw [hv] at k4
          have K5 := Lib.hid k4
          clear k4 h0 hv
          go_enter Try.func27, Try.ntmps27
          go_wp2_with (go_at_call 55; refine K.out.mono ?_; rintro e w' ⟨rfl, rfl⟩)
          refine (K2.out _).mono ?_
          rintro e1 w1 ⟨rfl, hb⟩
          have HB := Lib.hid (Below.off (F := Foot g b d.E) hb)
          have HD1 := Lib.hid (H.out.below hb)
          clear hb
          go_wp2_with fail
          refine (K3.out _ HD1.out).mono ?_
          rintro e2 w2 ⟨rfl, rfl⟩
          go_wp2_with fail
          refine (K5.out _ HD1.out).mono ?_
          rintro e2 w3 ⟨rfl, hd2, ho2⟩
          have c1 : w3.cell? ⟨g, 1, none⟩ = some (.map (some b)) := hd2.2.2.1.cell 1
          have HD2 := Lib.hid hd2
          have HO2 := Lib.hid ho2
          clear hd2 ho2
          have hlen : (delE x (spendD d).E).length < maxLen := by
            have : (delE x (spendD d).E).length ≤ (spendD d).E.length := List.length_filter_le _ _
            rw [spendE] at this ⊢
            unfold maxLen; omega
          have HLEN := Lib.hid hlen
          clear hlen
          go_wp2_with (first
            | (at_delete; refine wpList_delete_own _ rfl _ _ _ _ rfl _ Try.keyed Try.underlying62 ptrR b _ _ rfl HD2.out.2.2.2.1 _ _ rfl (keyName x hxm) ?_; intro w4 hown ht; have hd4 := HD2.out.delMap x hown ht; have c4 : w4.cell? ⟨g, 1, none⟩ = some (.map (some b)) := hd4.2.2.1.cell 1; have HD4 := Lib.hid hd4; have HO4 := Lib.hid (turned_off ht); clear hown ht hd4)
            | (at_mapUpdate; go_must (refine wpList_mapUpdate_in _ (by rfl) _ _ _ _ (by rfl) 9 79 Try.keyed Try.underlying62 ptrR b (delE x (spendD d).E).length (mapD (delE x (spendD d).E)) (by rfl) (by exact HD4.out.2.2.2.1) HLEN.out (.string (str y)) (.pointer (some ⟨e.g, 0, none⟩)) (.string y) (by rfl) (by rfl) (keyName y hym) _ _ (ptrR_some e.g) ?_); intro w5 hown5 ht5))
          rw [spendE] at hown5
          have HD4' : Hid (DiskAt w4 lo g b { spendD d with E := delE x d.E }) := Lib.hid (by have := HD4.out; rw [spendE] at this; exact this)
          have hput : (mapD (delE x d.E)).put (.string y) (.lit (.int .i64 (e.g : Int))) = mapD (renE d.E e x y) := mapD_put { e with name := y } (delE x d.E)
          have hown6 : w5.ownsMap Try.prog 9 ptrR b ((delE x d.E).length + 1) (mapD (renE d.E e x y)) := by rw [← hput]; exact hown5
          have ho5 := turned_off ht5
          have hE4 := HD4'.out.2.2.2.2.1
          have hap := HD2.out.2.2.2.2.2
          rw [spendE] at hap
          have hfe := HD2.out.2.2.2.2.1 e (by rw [spendE]; exact HM.out)
          have hfe4 : FileAt w4 lo e := by
            obtain ⟨f1, f2, f3, f4⟩ := hfe
            obtain ⟨es, clock, hmm, _⟩ := HD2.out.2.2.2.1
            refine ⟨f1, (HO4.out.2.2.2.2 e.g f2.lt (cells_map f2 hmm)).trans f2, f3.blk fun k hkk => ?_, f4⟩
            obtain ⟨cur, hc⟩ := f3.rowAt k hkk
            exact HO4.out.2.2.2.2 k (f3.ownLt k hkk).2 (cells_map hc hmm)
          have hd5 := HD4'.out.remap (E' := renE d.E e x y) ho5 (MapAt.resize hown6)
            (fun f hf => by
              rcases insE_mem hf with rfl | hf
              · exact hfe4
              · exact hE4 f (delE_mem hf).1)
            (insE_pair (fun f hf => by
              have h1 := delE_mem hf
              have h2 := delE_mem h1.1
              have hka : KApart e f := KApart.of_mem hap HM.out h2.1 (fun z => h2.2 (by rw [← z, HN.out]))
              exact ⟨hka.1, hka.2⟩)
              ((hap.sublist List.filter_sublist).sublist List.filter_sublist))
          have HD5 := Lib.hid hd5
          have HO5 := Lib.hid ho5
          clear hd5 ho5 hown5 hown6 ht5 hput hE4 hap hfe hfe4
          go_ret
          exact ⟨rfl, HD5.out, ((HB.out.trans (HO2.out.wide (G := Foot g b d.E) fun k hk => .inl hk) fun x hx => .inl hx).trans (HO4.out.wide (G := Foot g b d.E) fun k hk => .inr (.inl hk)) fun x hx => .inl hx).trans (HO5.out.wide (G := Foot g b d.E) fun k hk => .inr (.inl hk)) fun x hx => .inl hx⟩
end Go.Proofs.Ytincdegoiknfhab
