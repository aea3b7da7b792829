/-
  Append. Conditions: names' lengths are lengths; at most 2^40 bytes in all; deeds and what the power lasts are within what an int holds.
-/
import Derived.Test.YtincdegoiknfhabKSrcA
namespace Go.Proofs.Ytincdegoiknfhab
open Go.RowKit

/-- A map's length, in every world where it lies so. -/
theorem mlen {w : World} {b : Nat} {E : List KEnt} (h : MapAt w b E) : (Builtin.len_ #[62] 3 #[.map (some b)]).run Try.prog w = .ok (.int .i64 (E.length : Int)) w := h.len _
theorem map_up {w W : World} {b : Nat} {E : List KEnt} (h : MapAt w b E) (hW : Kept Nil w.drew W) : MapAt W b E := h.blk (hW.block b h.lt (show ¬ Nil _ from id))
theorem drew_b {B : Nat} {w w' : World} (h : Below B w w') : Below B w w'.drew := ⟨h.os, h.tape, h.output, h.size, h.block⟩
theorem app_blk {w5 w6 : World} {lo : Nat} {e : KEnt} (hf : FileAt w5 lo e) (hg : w5.grownBy w6 e.v.ownBlock) : Blk w6 e.g 82 #[e.v, .int .i64 (e.safe : Int)] := by
  refine hf.2.1.grown hg fun hx => ?_
  obtain ⟨cur, hc⟩ := hf.2.2.1.rowAt e.g hx.symm
  exact cells_ne hc hf.2.1 (by decide) rfl
/-- A file's bytes, grown: the disk then. -/
theorem app_done {w5 w6 : World} {lo g b : Nat} {d : KDisk} (hd : DiskAt w5 lo g b d) {e : KEnt} (hm : e ∈ d.E) {bl : List UInt8} {A : Option Addr} {c : Nat} (ho : Own w6 lo 5 (.slice A (e.bytes ++ bl).length c) (bvs (e.bytes ++ bl)))
    (hg : w5.grownBy w6 e.v.ownBlock) (hat : ∀ k, (Value.slice A (e.bytes ++ bl).length c).ownBlock = some k → e.v.ownBlock = some k ∨ w5.heap.size ≤ k) :
    DiskAt (w6.setCell ⟨e.g, 0, none⟩ (.slice A (e.bytes ++ bl).length c)) lo g b { d with E := updE { e with v := .slice A (e.bytes ++ bl).length c, bytes := e.bytes ++ bl } d.E } ∧ KeptOff (fun k => k = e.g ∨ e.v.ownBlock = some k) w5 (w6.setCell ⟨e.g, 0, none⟩ (.slice A (e.bytes ++ bl).length c)) := by
  have hf := hd.2.2.2.2.1 e hm
  have hb6 := app_blk hf hg
  have hk : KeptOff (fun k => k = e.g ∨ e.v.ownBlock = some k) w5 (w6.setCell ⟨e.g, 0, none⟩ (.slice A (e.bytes ++ bl).length c)) := by
    refine KeptOff.trans (G := fun k => k = e.g) ⟨hg.os, hg.tape, hg.output, hg.size, fun k hk hne => hg.block k hk fun hx => hne (.inr hx.symm)⟩ (KeptOff.set (F := fun k => k = e.g) _ e.g 0 _ rfl) fun x hx => .inl (.inl hx)
  refine ⟨hd.upd hm rfl rfl ?_ hk hat, hk⟩
  refine ⟨hf.1, hb6.set 0 _, ho.blk fun k hkk => ?_, ?_⟩
  · obtain ⟨cur, hc⟩ := ho.rowAt k hkk
    exact Below.heap_setCell _ _ _ _ (cells_ne hc hb6 (by decide))
  · have := hf.2.2.2
    show e.safe ≤ (e.bytes ++ bl).length
    rw [List.length_append]; omega
theorem upd_ins (e e' : KEnt) (hn : e'.name = e.name) : ∀ X : List KEnt, (∀ f ∈ X, f.name ≠ e.name) → updE e' (insE e X) = insE e' X
  | [], _ => by
    show [if e.name = e'.name then e' else e] = [e']
    rw [if_pos hn.symm]
  | f :: r, h => by
    have hr : updE e' r = r := by
      unfold updE
      have : ∀ x ∈ r, (if x.name = e'.name then e' else x) = x := fun x hx => if_neg (by rw [hn]; exact h x (by simp [hx]))
      rw [List.map_congr_left this, List.map_id']
    have hf : (if f.name = e'.name then e' else f) = f := if_neg (by rw [hn]; exact h f (by simp))
    unfold insE
    rw [hn]
    split
    · show (if e.name = e'.name then e' else e) :: (if f.name = e'.name then e' else f) :: updE e' r = _
      rw [if_pos hn.symm, hf, hr]
    · show (if f.name = e'.name then e' else f) :: updE e' (insE e r) = _
      rw [hf, upd_ins e e' hn r fun x hx => h x (by simp [hx])]
theorem upd_put (e e' : KEnt) (hn : e'.name = e.name) (E : List KEnt) : updE e' (putE e E) = putE e' E := by
  unfold putE
  rw [hn]
  exact upd_ins e e' hn _ fun f hf => (delE_mem hf).2
theorem foot_upd {g b k : Nat} {E : List KEnt} {e e' : KEnt} (hm : e ∈ E) (hg : e'.g = e.g) (h : Foot g b (updE e' E) k) : Foot g b E k ∨ e'.v.ownBlock = some k := by
  rcases h with rfl | rfl | ⟨x, hx, hk⟩
  · exact .inl (.inl rfl)
  · exact .inl (.inr (.inl rfl))
  · unfold updE at hx
    obtain ⟨f, hf, rfl⟩ := List.mem_map.1 hx
    by_cases hn : f.name = e'.name
    · rw [if_pos hn] at hk
      rcases hk with hk | hk
      · exact .inl (.inr (.inr ⟨e, hm, .inl (by rw [hk, hg])⟩))
      · exact .inr hk
    · rw [if_neg hn] at hk
      exact .inl (.inr (.inr ⟨f, hf, hk⟩))
theorem put_mem (e : KEnt) (E : List KEnt) : e ∈ putE e E := by
  unfold putE
  generalize delE e.name E = X
  induction X with
  | nil => exact List.mem_singleton.2 rfl
  | cons f r ih =>
    unfold insE
    split
    · exact List.mem_cons_self
    · exact List.mem_cons_of_mem _ ih
theorem put_sub {e f : KEnt} {E : List KEnt} (h : f ∈ putE e E) : f = e ∨ f ∈ E := by
  unfold putE at h
  rcases insE_mem h with h | h
  · exact .inl h
  · exact .inr (delE_mem h).1
/-- A new file, laid and named: the disk then. -/
theorem app_new {w w5 w6 : World} {lo g b : Nat} {d : KDisk} {n bl : List UInt8} {A : Option Addr} {c : Nat} (hb : Below w.heap.size w w5) (hd : DiskAt w5 lo g b d) (hS : Rdp w (fun k => ¬ Foot g b d.E k) (.slice A bl.length c) bl)
    (hd6 : DiskAt (w5.alloc (.cells #[.slice none 0 0, .int .i64 0] 82)) lo g b d)
    (hown : w6.ownsMap Try.prog 9 ptrR b (d.E.length + 1) ((mapD d.E).put (.string n) (.lit (.int .i64 (w5.heap.size : Int))))) (ht : (w5.alloc (.cells #[.slice none 0 0, .int .i64 0] 82)).mapTurned w6 b) :
    DiskAt w6 lo g b { d with E := putE ⟨n, w5.heap.size, .slice none 0 0, [], 0⟩ d.E } ∧ Blk w6 w5.heap.size 82 #[.slice none 0 0, .int .i64 0] ∧ Src w6 (.slice A bl.length c) (bvs bl) ∧ Own w6 lo 5 (.slice none 0 0) (bvs []) ∧ KeptOff (Foot g b d.E) w w6 ∧ lo ≤ w6.heap.size := by
  have hput : (mapD d.E).put (.string n) (.lit (.int .i64 (w5.heap.size : Int))) = mapD (putE ⟨n, w5.heap.size, .slice none 0 0, [], 0⟩ d.E) := mapD_put ⟨n, w5.heap.size, .slice none 0 0, [], 0⟩ d.E
  rw [hput] at hown
  have ho := turned_off ht
  have hlo : lo ≤ w5.heap.size := by have h1 := hd.1; have h2 := hd.2.2.1.lt; omega
  have hfe : FileAt (w5.alloc (.cells #[.slice none 0 0, .int .i64 0] 82)) lo ⟨n, w5.heap.size, .slice none 0 0, [], 0⟩ := ⟨hlo, Blk.fresh _ _ _, Own.nil _ _ _, Nat.le_refl _⟩
  have hd7 := hd6.remap ho (MapAt.resize hown) (fun f hf => by
      rcases put_sub hf with rfl | hf
      · exact hfe
      · exact hd6.2.2.2.2.1 f hf)
    (insE_pair (fun f hf => by
      have h1 := (delE_mem hf).1
      have h2 := (hd.lt f.g (.inr (.inr ⟨f, h1, .inl rfl⟩))).2
      exact ⟨by show w5.heap.size ≠ f.g; omega, .inl rfl⟩) (hd6.2.2.2.2.2.sublist List.filter_sublist))
  have hoff : KeptOff (Foot g b d.E) w5 w6 := by
    have h1 : KeptOff (Foot g b d.E) w5 (w5.alloc (.cells #[.slice none 0 0, .int .i64 0] 82)) := Below.off ((Below.refl _ _).alloc (Nat.le_refl _) _)
    exact h1.trans (ho.wide (G := Foot g b d.E) fun k hk => .inr (.inl hk)) fun x hx => .inl hx
  have hall : KeptOff (Foot g b d.E) w w6 := (Below.off (F := Foot g b d.E) hb).trans hoff fun x hx => .inl hx
  refine ⟨hd7, (hd7.2.2.2.2.1 _ (put_mem _ _)).2.1, ?_, Own.nil _ _ _, hall, ?_⟩
  · exact (hS.kept (D := Foot g b d.E) ⟨hall.1, hall.2.1, hall.2.2.1, hall.2.2.2.1, hall.2.2.2.2⟩ fun _ h => h).rd.src
  · have := hoff.2.2.2.1; omega
section
variable {w : World} {lo g b : Nat} {d : KDisk}
theorem kapp_off (h : DiskAt w lo g b d) (ho : d.off = true) (n : List UInt8) (vb : Value) : Calls Try.prog 24 #[.pointer (some ⟨g, 0, none⟩), .string (str n), vb] w (Ans w (.int .i64 30)) := by
  have k1 := kready h
  unfold readyV at k1
  rw [ho, if_pos rfl] at k1
  have K := Lib.hid k1
  clear k1 ho h
  go_enter Try.func24, Try.ntmps24
  go_wp2_with (go_at_call 55; refine K.out.mono ?_; rintro e w' ⟨rfl, rfl⟩)
  go_ret
  exact ⟨rfl, rfl⟩
theorem kapp_name (h : DiskAt w lo g b d) (ho : d.off = false) (n : List UInt8) (hn : n.length ≤ 1099511627776) (hnm : nameB n = false) (vb : Value) : Calls Try.prog 24 #[.pointer (some ⟨g, 0, none⟩), .string (str n), vb] w (Made w (.int .i64 31)) := by
  have k1 := kready h
  unfold readyV at k1
  rw [ho, if_neg Bool.false_ne_true] at k1
  have k2 := fun W => kname n W hn
  rw [hnm] at k2
  have K := Lib.hid k1
  have K2 := Lib.hid k2
  clear k1 k2 ho h hnm
  go_enter Try.func24, Try.ntmps24
  go_wp2_with (go_at_call 55; refine K.out.mono ?_; rintro e w' ⟨rfl, rfl⟩)
  refine (K2.out _).mono ?_
  rintro e w1 ⟨rfl, hb⟩
  go_wp2_with fail
  go_ret
  exact ⟨rfl, hb⟩
set_option maxHeartbeats 1600000 in
theorem kapp_full1 (h : DiskAt w lo g b d) (ho : d.off = false) (n : List UInt8) (hn : n.length ≤ 1099511627776) (hnm : nameB n = true) (hu : usedE d.E ≤ 1099511627776) (A : Option Addr) (m c : Nat) (he : atE d.E n = none) (hE : 64 ≤ d.E.length) :
    Calls Try.prog 24 #[.pointer (some ⟨g, 0, none⟩), .string (str n), .slice A m c] w (Made w (.int .i64 2)) := by
  have k1 := kready h
  unfold readyV at k1
  rw [ho, if_neg Bool.false_ne_true] at k1
  have k2 := fun W => kname n W hn
  rw [hnm] at k2
  have K := Lib.hid k1
  have K2 := Lib.hid k2
  have H := Lib.hid h
  have HE := Lib.hid he
  have HU := Lib.hid hu
  clear k1 k2 ho h hnm he
  have hge : decide ((64 : Int) ≤ (d.E.length : Int)) = true := decide_eq_true (by omega)
  go_enter Try.func24, Try.ntmps24
  go_wp2_with (go_at_call 55; refine K.out.mono ?_; rintro e w' ⟨rfl, rfl⟩)
  refine (K2.out _).mono ?_
  rintro e1 w1 ⟨rfl, hb⟩
  have hd1 := H.out.below hb
  have HB := Lib.hid hb
  have c0 : w1.cell? ⟨g, 0, none⟩ = some (.int .i64 d.q) := hd1.2.2.1.cell 0
  have c1 : w1.cell? ⟨g, 1, none⟩ = some (.map (some b)) := hd1.2.2.1.cell 1
  have hl := hd1.2.2.2.1.look n (by unfold maxLen; omega)
  rw [HE.out] at hl
  unfold ptrE at hl
  have C0 : Hid (w1.drew.cell? ⟨g, 0, none⟩ = some (.int .i64 d.q)) := Lib.hid c0
  have C1 : Hid (w1.drew.cell? ⟨g, 1, none⟩ = some (.map (some b))) := Lib.hid c1
  have M1 := Lib.hid hd1.2.2.2.1
  have HD1 : Hid (DiskAt w1.drew lo g b d) := Lib.hid (hd1.keep fun _ _ => rfl)
  have HD0 := Lib.hid hd1
  clear hb hd1 c0
  go_wp2_with fail
  refine up_start Nil (by kernel_rfl) ?_
  refine up_take (by exact at0) (by kernel_rfl) (by exact fun _ _ _ h => h) (by rfl) (by intro W hW; go_simp; try with_reducible rfl) ?_
  simp only [Act.put, List.setIfInBounds_toArray, List.set_cons_zero, List.set_cons_succ]
  refine up_take (by exact (atS at0)) (by kernel_rfl) (by exact fun _ _ _ h => h) (by rfl) (by intro W hW; go_simp; try with_reducible rfl) ?_
  simp only [Act.put, List.setIfInBounds_toArray, List.set_cons_zero, List.set_cons_succ]
  refine up_take (by exact (atS (atS at0))) (by kernel_rfl) (by exact fun _ _ _ h => h) (by rfl) (by intro W hW; go_simp; try with_reducible rfl) ?_
  simp only [Act.put, List.setIfInBounds_toArray, List.set_cons_zero, List.set_cons_succ]
  refine up_take (by exact (atS (atS (atS at0)))) (by kernel_rfl) (by exact fun _ _ _ h => h) (by rfl) (by intro W hW; go_simp; try with_reducible rfl) ?_
  simp only [Act.put, List.setIfInBounds_toArray, List.set_cons_zero, List.set_cons_succ]
  refine up_take (by exact (atS (atS (atS (atS at0))))) (by kernel_rfl) (by exact fun _ _ _ h => h) (by rfl) (by intro W hW; go_simp; try with_reducible rfl) ?_
  simp only [Act.put, List.setIfInBounds_toArray, List.set_cons_zero, List.set_cons_succ]
  refine up_take (by exact (atS (atS (atS (atS (atS at0)))))) (by kernel_rfl) (by exact fun _ _ _ h => h) (by rfl) (by intro W hW; go_simp; try with_reducible rfl) ?_
  simp only [Act.put, List.setIfInBounds_toArray, List.set_cons_zero, List.set_cons_succ]
  refine up_take (by exact (atS (atS (atS (atS (atS (atS at0))))))) (by kernel_rfl) (by exact fun _ _ _ h => h) (by rfl) (by intro W hW; have q := cell_up C1.out hW (show ¬ Nil _ from id); go_simp; try with_reducible rfl) ?_
  simp only [Act.put, List.setIfInBounds_toArray, List.set_cons_zero, List.set_cons_succ]
  refine up_take (by exact (atS (atS (atS (atS (atS (atS (atS at0)))))))) (by kernel_rfl) (by exact fun _ _ _ h => h) (by rfl) (by intro W hW; have q := mlen (map_up M1.out hW); go_simp; try with_reducible rfl) ?_
  simp only [Act.put, List.setIfInBounds_toArray, List.set_cons_zero, List.set_cons_succ]
  refine up_take (by exact (atS (atS (atS (atS (atS (atS (atS (atS at0))))))))) (by kernel_rfl) (by exact fun _ _ _ h => h) (by rfl) (by intro W hW; go_simp; try with_reducible rfl) ?_
  simp only [Act.put, List.setIfInBounds_toArray, List.set_cons_zero, List.set_cons_succ]
  refine up_take (by exact (atS (atS (atS (atS (atS (atS (atS (atS (atS at0)))))))))) (by kernel_rfl) (by exact fun _ _ _ h => h) (by rfl) (by intro W hW; go_simp; try with_reducible rfl) ?_
  simp only [Act.put, List.setIfInBounds_toArray, List.set_cons_zero, List.set_cons_succ]
  refine up_take (by exact (atS (atS (atS (atS (atS (atS (atS (atS (atS (atS at0))))))))))) (by kernel_rfl) (by exact fun _ _ _ h => h) (by rfl) (by intro W hW; go_simp; try with_reducible rfl) ?_
  simp only [Act.put, List.setIfInBounds_toArray, List.set_cons_zero, List.set_cons_succ]
  refine up_skip (by exact (atS (atS (atS (atS (atS (atS (atS (atS (atS (atS (atS at0)))))))))))) (by kernel_rfl) (by exact fun _ _ _ h => h) (by rfl) ?_
  simp only [Act.put, List.setIfInBounds_toArray, List.set_cons_zero, List.set_cons_succ]
  refine up_skip (by exact (atS (atS (atS (atS (atS (atS (atS (atS (atS (atS (atS (atS (atS at0)))))))))))))) (by kernel_rfl) (by exact fun _ _ _ h => h) (by rfl) ?_
  simp only [Act.put, List.setIfInBounds_toArray, List.set_cons_zero, List.set_cons_succ]
  refine up_skip (by exact (atS (atS (atS (atS (atS (atS (atS (atS (atS (atS (atS (atS (atS (atS at0))))))))))))))) (by kernel_rfl) (by exact fun _ _ _ h => h) (by rfl) ?_
  simp only [Act.put, List.setIfInBounds_toArray, List.set_cons_zero, List.set_cons_succ]
  refine up_skip (by exact (atS (atS (atS (atS (atS (atS (atS (atS (atS (atS (atS (atS (atS (atS (atS (atS at0))))))))))))))))) (by kernel_rfl) (by exact fun _ _ _ h => h) (by rfl) ?_
  simp only [Act.put, List.setIfInBounds_toArray, List.set_cons_zero, List.set_cons_succ]
  refine up_skip (by exact (atS (atS (atS (atS (atS (atS (atS (atS (atS (atS (atS (atS (atS (atS (atS (atS (atS at0)))))))))))))))))) (by kernel_rfl) (by exact fun _ _ _ h => h) (by rfl) ?_
  simp only [Act.put, List.setIfInBounds_toArray, List.set_cons_zero, List.set_cons_succ]
  refine up_skip (by exact (atS (atS (atS (atS (atS (atS (atS (atS (atS (atS (atS (atS (atS (atS (atS (atS (atS (atS at0))))))))))))))))))) (by kernel_rfl) (by exact fun _ _ _ h => h) (by rfl) ?_
  simp only [Act.put, List.setIfInBounds_toArray, List.set_cons_zero, List.set_cons_succ]
  refine up_skip (by exact (atS (atS (atS (atS (atS (atS (atS (atS (atS (atS (atS (atS (atS (atS (atS (atS (atS (atS (atS at0)))))))))))))))))))) (by kernel_rfl) (by exact fun _ _ _ h => h) (by rfl) ?_
  simp only [Act.put, List.setIfInBounds_toArray, List.set_cons_zero, List.set_cons_succ]
  refine up_one (by exact (atS (atS (atS (atS (atS (atS (atS (atS (atS (atS (atS (atS at0))))))))))))) (by kernel_rfl) (fun K hK => ?_)
  go_simp
  refine hK.out _ _ (Kept.refl _ _) ?_
  clear hK K
  refine up_skip (by exact (atS (atS (atS (atS (atS (atS (atS (atS (atS (atS (atS (atS (atS (atS (atS at0)))))))))))))))) (by kernel_rfl) (by exact fun _ _ _ h => h) (by rfl) ?_
  simp only [Act.put, List.setIfInBounds_toArray, List.set_cons_zero, List.set_cons_succ]
  refine up_skip (by exact (atS (atS (atS (atS (atS (atS (atS (atS (atS (atS (atS (atS (atS (atS (atS (atS (atS (atS (atS (atS at0))))))))))))))))))))) (by kernel_rfl) (by exact fun _ _ _ h => h) (by rfl) ?_
  simp only [Act.put, List.setIfInBounds_toArray, List.set_cons_zero, List.set_cons_succ]
  refine up_take (by exact (atS (atS (atS (atS (atS (atS (atS (atS (atS (atS (atS (atS (atS (atS (atS (atS (atS (atS (atS (atS (atS at0)))))))))))))))))))))) (by kernel_rfl) (by exact fun _ _ _ h => h) (by rfl) (by intro W hW; go_simp; try with_reducible rfl) ?_
  simp only [Act.put, List.setIfInBounds_toArray, List.set_cons_zero, List.set_cons_succ]
  refine up_done (by kernel_rfl) ?_
  go_wp2_with fail
  go_ret
  exact ⟨rfl, drew_b HB.out⟩
set_option maxHeartbeats 1600000 in
theorem kapp_full2 (h : DiskAt w lo g b d) (ho : d.off = false) (n : List UInt8) (hn : n.length ≤ 1099511627776) (hnm : nameB n = true) (hu : usedE d.E ≤ 1099511627776) (A : Option Addr) (m c : Nat) (hm : m ≤ 1099511627776) (he : atE d.E n = none) (hE : ¬ 64 ≤ d.E.length) (hq : d.q < (usedE d.E : Int) + (m : Int)) :
    Calls Try.prog 24 #[.pointer (some ⟨g, 0, none⟩), .string (str n), .slice A m c] w (Made w (.int .i64 2)) := by
  have k1 := kready h
  unfold readyV at k1
  rw [ho, if_neg Bool.false_ne_true] at k1
  have k2 := fun W => kname n W hn
  rw [hnm] at k2
  have K := Lib.hid k1
  have K2 := Lib.hid k2
  have H := Lib.hid h
  have HE := Lib.hid he
  have HU := Lib.hid hu
  clear k1 k2 ho h hnm he
  have hge : decide ((64 : Int) ≤ (d.E.length : Int)) = false := decide_eq_false (by omega)
  have hwr : IntKind.i64.wrap ((usedE d.E : Int) + (m : Int)) = (usedE d.E : Int) + (m : Int) := IntWalk.i64_in _ (by omega)
  have hfu : decide (d.q < (usedE d.E : Int) + (m : Int)) = true := decide_eq_true hq
  go_enter Try.func24, Try.ntmps24
  go_wp2_with (go_at_call 55; refine K.out.mono ?_; rintro e w' ⟨rfl, rfl⟩)
  refine (K2.out _).mono ?_
  rintro e1 w1 ⟨rfl, hb⟩
  have hd1 := H.out.below hb
  have HB := Lib.hid hb
  have c0 : w1.cell? ⟨g, 0, none⟩ = some (.int .i64 d.q) := hd1.2.2.1.cell 0
  have c1 : w1.cell? ⟨g, 1, none⟩ = some (.map (some b)) := hd1.2.2.1.cell 1
  have hl := hd1.2.2.2.1.look n (by unfold maxLen; omega)
  rw [HE.out] at hl
  unfold ptrE at hl
  have C0 : Hid (w1.drew.cell? ⟨g, 0, none⟩ = some (.int .i64 d.q)) := Lib.hid c0
  have C1 : Hid (w1.drew.cell? ⟨g, 1, none⟩ = some (.map (some b))) := Lib.hid c1
  have M1 := Lib.hid hd1.2.2.2.1
  have HD1 : Hid (DiskAt w1.drew lo g b d) := Lib.hid (hd1.keep fun _ _ => rfl)
  have HD0 := Lib.hid hd1
  clear hb hd1 c0
  go_wp2_with fail
  refine up_start Nil (by kernel_rfl) ?_
  refine up_take (by exact at0) (by kernel_rfl) (by exact fun _ _ _ h => h) (by rfl) (by intro W hW; go_simp; try with_reducible rfl) ?_
  simp only [Act.put, List.setIfInBounds_toArray, List.set_cons_zero, List.set_cons_succ]
  refine up_take (by exact (atS at0)) (by kernel_rfl) (by exact fun _ _ _ h => h) (by rfl) (by intro W hW; go_simp; try with_reducible rfl) ?_
  simp only [Act.put, List.setIfInBounds_toArray, List.set_cons_zero, List.set_cons_succ]
  refine up_take (by exact (atS (atS at0))) (by kernel_rfl) (by exact fun _ _ _ h => h) (by rfl) (by intro W hW; go_simp; try with_reducible rfl) ?_
  simp only [Act.put, List.setIfInBounds_toArray, List.set_cons_zero, List.set_cons_succ]
  refine up_take (by exact (atS (atS (atS at0)))) (by kernel_rfl) (by exact fun _ _ _ h => h) (by rfl) (by intro W hW; go_simp; try with_reducible rfl) ?_
  simp only [Act.put, List.setIfInBounds_toArray, List.set_cons_zero, List.set_cons_succ]
  refine up_take (by exact (atS (atS (atS (atS at0))))) (by kernel_rfl) (by exact fun _ _ _ h => h) (by rfl) (by intro W hW; go_simp; try with_reducible rfl) ?_
  simp only [Act.put, List.setIfInBounds_toArray, List.set_cons_zero, List.set_cons_succ]
  refine up_take (by exact (atS (atS (atS (atS (atS at0)))))) (by kernel_rfl) (by exact fun _ _ _ h => h) (by rfl) (by intro W hW; go_simp; try with_reducible rfl) ?_
  simp only [Act.put, List.setIfInBounds_toArray, List.set_cons_zero, List.set_cons_succ]
  refine up_take (by exact (atS (atS (atS (atS (atS (atS at0))))))) (by kernel_rfl) (by exact fun _ _ _ h => h) (by rfl) (by intro W hW; have q := cell_up C1.out hW (show ¬ Nil _ from id); go_simp; try with_reducible rfl) ?_
  simp only [Act.put, List.setIfInBounds_toArray, List.set_cons_zero, List.set_cons_succ]
  refine up_take (by exact (atS (atS (atS (atS (atS (atS (atS at0)))))))) (by kernel_rfl) (by exact fun _ _ _ h => h) (by rfl) (by intro W hW; have q := mlen (map_up M1.out hW); go_simp; try with_reducible rfl) ?_
  simp only [Act.put, List.setIfInBounds_toArray, List.set_cons_zero, List.set_cons_succ]
  refine up_take (by exact (atS (atS (atS (atS (atS (atS (atS (atS at0))))))))) (by kernel_rfl) (by exact fun _ _ _ h => h) (by rfl) (by intro W hW; go_simp; try with_reducible rfl) ?_
  simp only [Act.put, List.setIfInBounds_toArray, List.set_cons_zero, List.set_cons_succ]
  refine up_take (by exact (atS (atS (atS (atS (atS (atS (atS (atS (atS at0)))))))))) (by kernel_rfl) (by exact fun _ _ _ h => h) (by rfl) (by intro W hW; go_simp; try with_reducible rfl) ?_
  simp only [Act.put, List.setIfInBounds_toArray, List.set_cons_zero, List.set_cons_succ]
  refine up_take (by exact (atS (atS (atS (atS (atS (atS (atS (atS (atS (atS at0))))))))))) (by kernel_rfl) (by exact fun _ _ _ h => h) (by rfl) (by intro W hW; go_simp; try with_reducible rfl) ?_
  simp only [Act.put, List.setIfInBounds_toArray, List.set_cons_zero, List.set_cons_succ]
  refine up_take (by exact (atS (atS (atS (atS (atS (atS (atS (atS (atS (atS (atS at0)))))))))))) (by kernel_rfl) (by exact fun _ _ _ h => h) (by rfl) (by intro W hW; go_simp; try with_reducible rfl) ?_
  simp only [Act.put, List.setIfInBounds_toArray, List.set_cons_zero, List.set_cons_succ]
  refine up_take (by exact (atS (atS (atS (atS (atS (atS (atS (atS (atS (atS (atS (atS (atS at0)))))))))))))) (by kernel_rfl) (by exact fun _ _ _ h => h) (by rfl) (by intro W hW; go_simp; try with_reducible rfl) ?_
  simp only [Act.put, List.setIfInBounds_toArray, List.set_cons_zero, List.set_cons_succ]
  refine up_take (by exact (atS (atS (atS (atS (atS (atS (atS (atS (atS (atS (atS (atS (atS (atS at0))))))))))))))) (by kernel_rfl) (by exact fun _ _ _ h => h) (by rfl) (by intro W hW; go_simp; try with_reducible rfl) ?_
  simp only [Act.put, List.setIfInBounds_toArray, List.set_cons_zero, List.set_cons_succ]
  refine up_take (by exact (atS (atS (atS (atS (atS (atS (atS (atS (atS (atS (atS (atS (atS (atS (atS (atS at0))))))))))))))))) (by kernel_rfl) (by exact fun _ _ _ h => h) (by rfl) (by intro W hW; go_simp; try with_reducible rfl) ?_
  simp only [Act.put, List.setIfInBounds_toArray, List.set_cons_zero, List.set_cons_succ]
  refine up_take (by exact (atS (atS (atS (atS (atS (atS (atS (atS (atS (atS (atS (atS (atS (atS (atS (atS (atS at0)))))))))))))))))) (by kernel_rfl) (by exact fun _ _ _ h => h) (by rfl) (by intro W hW; go_simp; try with_reducible rfl) ?_
  simp only [Act.put, List.setIfInBounds_toArray, List.set_cons_zero, List.set_cons_succ]
  refine up_take (by exact (atS (atS (atS (atS (atS (atS (atS (atS (atS (atS (atS (atS (atS (atS (atS (atS (atS (atS at0))))))))))))))))))) (by kernel_rfl) (by exact fun _ _ _ h => h) (by rfl) (by intro W hW; go_simp; try with_reducible rfl) ?_
  simp only [Act.put, List.setIfInBounds_toArray, List.set_cons_zero, List.set_cons_succ]
  refine up_take (by exact (atS (atS (atS (atS (atS (atS (atS (atS (atS (atS (atS (atS (atS (atS (atS (atS (atS (atS (atS at0)))))))))))))))))))) (by kernel_rfl) (by exact fun _ _ _ h => h) (by rfl) (by intro W hW; have q := cell_up C0.out hW (show ¬ Nil _ from id); go_simp; try with_reducible rfl) ?_
  simp only [Act.put, List.setIfInBounds_toArray, List.set_cons_zero, List.set_cons_succ]
  refine up_one (by exact (atS (atS (atS (atS (atS (atS (atS (atS (atS (atS (atS (atS at0))))))))))))) (by kernel_rfl) (fun K hK => ?_)
  go_simp
  refine (kused HD1.out HU.out).mono ?_
  rintro e w5 ⟨rfl, b5⟩
  refine hK.out _ _ (Kept.below b5) ?_
  clear hK K
  have B5 := Lib.hid (drewB b5)
  clear b5
  refine up_take (by exact (atS (atS (atS (atS (atS (atS (atS (atS (atS (atS (atS (atS (atS (atS (atS at0)))))))))))))))) (by kernel_rfl) (by exact fun _ _ _ h => h) (by rfl) (by intro W hW; go_simp; try with_reducible rfl) ?_
  simp only [Act.put, List.setIfInBounds_toArray, List.set_cons_zero, List.set_cons_succ]
  refine up_take (by exact (atS (atS (atS (atS (atS (atS (atS (atS (atS (atS (atS (atS (atS (atS (atS (atS (atS (atS (atS (atS at0))))))))))))))))))))) (by kernel_rfl) (by exact fun _ _ _ h => h) (by rfl) (by intro W hW; go_simp; try with_reducible rfl) ?_
  simp only [Act.put, List.setIfInBounds_toArray, List.set_cons_zero, List.set_cons_succ]
  refine up_take (by exact (atS (atS (atS (atS (atS (atS (atS (atS (atS (atS (atS (atS (atS (atS (atS (atS (atS (atS (atS (atS (atS at0)))))))))))))))))))))) (by kernel_rfl) (by exact fun _ _ _ h => h) (by rfl) (by intro W hW; go_simp; try with_reducible rfl) ?_
  simp only [Act.put, List.setIfInBounds_toArray, List.set_cons_zero, List.set_cons_succ]
  refine up_done (by kernel_rfl) ?_
  go_wp2_with fail
  go_ret
  exact ⟨rfl, HB.out.trans (B5.out.mono HB.out.size)⟩
set_option maxHeartbeats 1600000 in
theorem kapp_full3 (h : DiskAt w lo g b d) (ho : d.off = false) (n : List UInt8) (hn : n.length ≤ 1099511627776) (hnm : nameB n = true) (hu : usedE d.E ≤ 1099511627776) (A : Option Addr) (m c : Nat) (hm : m ≤ 1099511627776) {e : KEnt} (he : atE d.E n = some e) (hq : d.q < (usedE d.E : Int) + (m : Int)) :
    Calls Try.prog 24 #[.pointer (some ⟨g, 0, none⟩), .string (str n), .slice A m c] w (Made w (.int .i64 2)) := by
  have k1 := kready h
  unfold readyV at k1
  rw [ho, if_neg Bool.false_ne_true] at k1
  have k2 := fun W => kname n W hn
  rw [hnm] at k2
  have K := Lib.hid k1
  have K2 := Lib.hid k2
  have H := Lib.hid h
  have HE := Lib.hid he
  have HU := Lib.hid hu
  clear k1 k2 ho h hnm he
  have hwr : IntKind.i64.wrap ((usedE d.E : Int) + (m : Int)) = (usedE d.E : Int) + (m : Int) := IntWalk.i64_in _ (by omega)
  have hfu : decide (d.q < (usedE d.E : Int) + (m : Int)) = true := decide_eq_true hq
  go_enter Try.func24, Try.ntmps24
  go_wp2_with (go_at_call 55; refine K.out.mono ?_; rintro e w' ⟨rfl, rfl⟩)
  refine (K2.out _).mono ?_
  rintro e1 w1 ⟨rfl, hb⟩
  have hd1 := H.out.below hb
  have HB := Lib.hid hb
  have c0 : w1.cell? ⟨g, 0, none⟩ = some (.int .i64 d.q) := hd1.2.2.1.cell 0
  have c1 : w1.cell? ⟨g, 1, none⟩ = some (.map (some b)) := hd1.2.2.1.cell 1
  have hl := hd1.2.2.2.1.look n (by unfold maxLen; omega)
  rw [HE.out] at hl
  unfold ptrE at hl
  have C0 : Hid (w1.drew.cell? ⟨g, 0, none⟩ = some (.int .i64 d.q)) := Lib.hid c0
  have C1 : Hid (w1.drew.cell? ⟨g, 1, none⟩ = some (.map (some b))) := Lib.hid c1
  have M1 := Lib.hid hd1.2.2.2.1
  have HD1 : Hid (DiskAt w1.drew lo g b d) := Lib.hid (hd1.keep fun _ _ => rfl)
  have HD0 := Lib.hid hd1
  clear hb hd1 c0
  go_wp2_with fail
  refine up_start Nil (by kernel_rfl) ?_
  refine up_take (by exact at0) (by kernel_rfl) (by exact fun _ _ _ h => h) (by rfl) (by intro W hW; go_simp; try with_reducible rfl) ?_
  simp only [Act.put, List.setIfInBounds_toArray, List.set_cons_zero, List.set_cons_succ]
  refine up_take (by exact (atS at0)) (by kernel_rfl) (by exact fun _ _ _ h => h) (by rfl) (by intro W hW; go_simp; try with_reducible rfl) ?_
  simp only [Act.put, List.setIfInBounds_toArray, List.set_cons_zero, List.set_cons_succ]
  refine up_take (by exact (atS (atS at0))) (by kernel_rfl) (by exact fun _ _ _ h => h) (by rfl) (by intro W hW; go_simp; try with_reducible rfl) ?_
  simp only [Act.put, List.setIfInBounds_toArray, List.set_cons_zero, List.set_cons_succ]
  refine up_skip (by exact (atS (atS (atS at0)))) (by kernel_rfl) (by exact fun _ _ _ h => h) (by rfl) ?_
  simp only [Act.put, List.setIfInBounds_toArray, List.set_cons_zero, List.set_cons_succ]
  refine up_skip (by exact (atS (atS (atS (atS at0))))) (by kernel_rfl) (by exact fun _ _ _ h => h) (by rfl) ?_
  simp only [Act.put, List.setIfInBounds_toArray, List.set_cons_zero, List.set_cons_succ]
  refine up_skip (by exact (atS (atS (atS (atS (atS at0)))))) (by kernel_rfl) (by exact fun _ _ _ h => h) (by rfl) ?_
  simp only [Act.put, List.setIfInBounds_toArray, List.set_cons_zero, List.set_cons_succ]
  refine up_skip (by exact (atS (atS (atS (atS (atS (atS at0))))))) (by kernel_rfl) (by exact fun _ _ _ h => h) (by rfl) ?_
  simp only [Act.put, List.setIfInBounds_toArray, List.set_cons_zero, List.set_cons_succ]
  refine up_skip (by exact (atS (atS (atS (atS (atS (atS (atS at0)))))))) (by kernel_rfl) (by exact fun _ _ _ h => h) (by rfl) ?_
  simp only [Act.put, List.setIfInBounds_toArray, List.set_cons_zero, List.set_cons_succ]
  refine up_skip (by exact (atS (atS (atS (atS (atS (atS (atS (atS at0))))))))) (by kernel_rfl) (by exact fun _ _ _ h => h) (by rfl) ?_
  simp only [Act.put, List.setIfInBounds_toArray, List.set_cons_zero, List.set_cons_succ]
  refine up_take (by exact (atS (atS (atS (atS (atS (atS (atS (atS (atS at0)))))))))) (by kernel_rfl) (by exact fun _ _ _ h => h) (by rfl) (by intro W hW; go_simp; try with_reducible rfl) ?_
  simp only [Act.put, List.setIfInBounds_toArray, List.set_cons_zero, List.set_cons_succ]
  refine up_take (by exact (atS (atS (atS (atS (atS (atS (atS (atS (atS (atS at0))))))))))) (by kernel_rfl) (by exact fun _ _ _ h => h) (by rfl) (by intro W hW; go_simp; try with_reducible rfl) ?_
  simp only [Act.put, List.setIfInBounds_toArray, List.set_cons_zero, List.set_cons_succ]
  refine up_take (by exact (atS (atS (atS (atS (atS (atS (atS (atS (atS (atS (atS at0)))))))))))) (by kernel_rfl) (by exact fun _ _ _ h => h) (by rfl) (by intro W hW; go_simp; try with_reducible rfl) ?_
  simp only [Act.put, List.setIfInBounds_toArray, List.set_cons_zero, List.set_cons_succ]
  refine up_take (by exact (atS (atS (atS (atS (atS (atS (atS (atS (atS (atS (atS (atS (atS at0)))))))))))))) (by kernel_rfl) (by exact fun _ _ _ h => h) (by rfl) (by intro W hW; go_simp; try with_reducible rfl) ?_
  simp only [Act.put, List.setIfInBounds_toArray, List.set_cons_zero, List.set_cons_succ]
  refine up_take (by exact (atS (atS (atS (atS (atS (atS (atS (atS (atS (atS (atS (atS (atS (atS at0))))))))))))))) (by kernel_rfl) (by exact fun _ _ _ h => h) (by rfl) (by intro W hW; go_simp; try with_reducible rfl) ?_
  simp only [Act.put, List.setIfInBounds_toArray, List.set_cons_zero, List.set_cons_succ]
  refine up_take (by exact (atS (atS (atS (atS (atS (atS (atS (atS (atS (atS (atS (atS (atS (atS (atS (atS at0))))))))))))))))) (by kernel_rfl) (by exact fun _ _ _ h => h) (by rfl) (by intro W hW; go_simp; try with_reducible rfl) ?_
  simp only [Act.put, List.setIfInBounds_toArray, List.set_cons_zero, List.set_cons_succ]
  refine up_take (by exact (atS (atS (atS (atS (atS (atS (atS (atS (atS (atS (atS (atS (atS (atS (atS (atS (atS at0)))))))))))))))))) (by kernel_rfl) (by exact fun _ _ _ h => h) (by rfl) (by intro W hW; go_simp; try with_reducible rfl) ?_
  simp only [Act.put, List.setIfInBounds_toArray, List.set_cons_zero, List.set_cons_succ]
  refine up_take (by exact (atS (atS (atS (atS (atS (atS (atS (atS (atS (atS (atS (atS (atS (atS (atS (atS (atS (atS at0))))))))))))))))))) (by kernel_rfl) (by exact fun _ _ _ h => h) (by rfl) (by intro W hW; go_simp; try with_reducible rfl) ?_
  simp only [Act.put, List.setIfInBounds_toArray, List.set_cons_zero, List.set_cons_succ]
  refine up_take (by exact (atS (atS (atS (atS (atS (atS (atS (atS (atS (atS (atS (atS (atS (atS (atS (atS (atS (atS (atS at0)))))))))))))))))))) (by kernel_rfl) (by exact fun _ _ _ h => h) (by rfl) (by intro W hW; have q := cell_up C0.out hW (show ¬ Nil _ from id); go_simp; try with_reducible rfl) ?_
  simp only [Act.put, List.setIfInBounds_toArray, List.set_cons_zero, List.set_cons_succ]
  refine up_one (by exact (atS (atS (atS (atS (atS (atS (atS (atS (atS (atS (atS (atS at0))))))))))))) (by kernel_rfl) (fun K hK => ?_)
  go_simp
  refine (kused HD1.out HU.out).mono ?_
  rintro e w5 ⟨rfl, b5⟩
  refine hK.out _ _ (Kept.below b5) ?_
  clear hK K
  have B5 := Lib.hid (drewB b5)
  clear b5
  refine up_take (by exact (atS (atS (atS (atS (atS (atS (atS (atS (atS (atS (atS (atS (atS (atS (atS at0)))))))))))))))) (by kernel_rfl) (by exact fun _ _ _ h => h) (by rfl) (by intro W hW; go_simp; try with_reducible rfl) ?_
  simp only [Act.put, List.setIfInBounds_toArray, List.set_cons_zero, List.set_cons_succ]
  refine up_take (by exact (atS (atS (atS (atS (atS (atS (atS (atS (atS (atS (atS (atS (atS (atS (atS (atS (atS (atS (atS (atS at0))))))))))))))))))))) (by kernel_rfl) (by exact fun _ _ _ h => h) (by rfl) (by intro W hW; go_simp; try with_reducible rfl) ?_
  simp only [Act.put, List.setIfInBounds_toArray, List.set_cons_zero, List.set_cons_succ]
  refine up_take (by exact (atS (atS (atS (atS (atS (atS (atS (atS (atS (atS (atS (atS (atS (atS (atS (atS (atS (atS (atS (atS (atS at0)))))))))))))))))))))) (by kernel_rfl) (by exact fun _ _ _ h => h) (by rfl) (by intro W hW; go_simp; try with_reducible rfl) ?_
  simp only [Act.put, List.setIfInBounds_toArray, List.set_cons_zero, List.set_cons_succ]
  refine up_done (by kernel_rfl) ?_
  go_wp2_with fail
  go_ret
  exact ⟨rfl, HB.out.trans (B5.out.mono HB.out.size)⟩
set_option maxHeartbeats 3200000 in
theorem kapp_old (h : DiskAt w lo g b d) (ho : d.off = false) (n : List UInt8) (hn : n.length ≤ 1099511627776) (hnm : nameB n = true) (hu : usedE d.E ≤ 1099511627776) (A : Option Addr) (c : Nat) (bl : List UInt8) (hm : bl.length ≤ 1099511627776) (hw : WfK d) (hS : Rdp w (fun k => ¬ Foot g b d.E k) (.slice A bl.length c) bl) {e : KEnt} (he : atE d.E n = some e) (hq : ¬ d.q < (usedE d.E : Int) + (bl.length : Int)) :
    Calls Try.prog 24 #[.pointer (some ⟨g, 0, none⟩), .string (str n), .slice A bl.length c] w (AStep w lo g b d (spendA { absD d with L := updA { absF e with bytes := e.bytes ++ bl } (d.E.map absF) }) (.int .i64 (spendV d))) := by
  have k1 := kready h
  unfold readyV at k1
  rw [ho, if_neg Bool.false_ne_true] at k1
  have k2 := fun W => kname n W hn
  rw [hnm] at k2
  have K := Lib.hid k1
  have K2 := Lib.hid k2
  have H := Lib.hid h
  have HE := Lib.hid he
  have HU := Lib.hid hu
  have HS := Lib.hid hS
  have HW := Lib.hid hw
  clear k1 k2 ho h hnm he hS hw
  have hwr : IntKind.i64.wrap ((usedE d.E : Int) + (bl.length : Int)) = (usedE d.E : Int) + (bl.length : Int) := IntWalk.i64_in _ (by omega)
  have hfu : decide (d.q < (usedE d.E : Int) + (bl.length : Int)) = false := decide_eq_false hq
  go_enter Try.func24, Try.ntmps24
  go_wp2_with (go_at_call 55; refine K.out.mono ?_; rintro e w' ⟨rfl, rfl⟩)
  refine (K2.out _).mono ?_
  rintro e1 w1 ⟨rfl, hb⟩
  have hd1 := H.out.below hb
  have HB := Lib.hid hb
  have c0 : w1.cell? ⟨g, 0, none⟩ = some (.int .i64 d.q) := hd1.2.2.1.cell 0
  have c1 : w1.cell? ⟨g, 1, none⟩ = some (.map (some b)) := hd1.2.2.1.cell 1
  have hl := hd1.2.2.2.1.look n (by unfold maxLen; omega)
  rw [HE.out] at hl
  unfold ptrE at hl
  have C0 : Hid (w1.drew.cell? ⟨g, 0, none⟩ = some (.int .i64 d.q)) := Lib.hid c0
  have C1 : Hid (w1.drew.cell? ⟨g, 1, none⟩ = some (.map (some b))) := Lib.hid c1
  have M1 := Lib.hid hd1.2.2.2.1
  have HD1 : Hid (DiskAt w1.drew lo g b d) := Lib.hid (hd1.keep fun _ _ => rfl)
  have HD0 := Lib.hid hd1
  clear hb hd1 c0
  go_wp2_with fail
  refine up_start Nil (by kernel_rfl) ?_
  refine up_take (by exact at0) (by kernel_rfl) (by exact fun _ _ _ h => h) (by rfl) (by intro W hW; go_simp; try with_reducible rfl) ?_
  simp only [Act.put, List.setIfInBounds_toArray, List.set_cons_zero, List.set_cons_succ]
  refine up_take (by exact (atS at0)) (by kernel_rfl) (by exact fun _ _ _ h => h) (by rfl) (by intro W hW; go_simp; try with_reducible rfl) ?_
  simp only [Act.put, List.setIfInBounds_toArray, List.set_cons_zero, List.set_cons_succ]
  refine up_take (by exact (atS (atS at0))) (by kernel_rfl) (by exact fun _ _ _ h => h) (by rfl) (by intro W hW; go_simp; try with_reducible rfl) ?_
  simp only [Act.put, List.setIfInBounds_toArray, List.set_cons_zero, List.set_cons_succ]
  refine up_skip (by exact (atS (atS (atS at0)))) (by kernel_rfl) (by exact fun _ _ _ h => h) (by rfl) ?_
  simp only [Act.put, List.setIfInBounds_toArray, List.set_cons_zero, List.set_cons_succ]
  refine up_skip (by exact (atS (atS (atS (atS at0))))) (by kernel_rfl) (by exact fun _ _ _ h => h) (by rfl) ?_
  simp only [Act.put, List.setIfInBounds_toArray, List.set_cons_zero, List.set_cons_succ]
  refine up_skip (by exact (atS (atS (atS (atS (atS at0)))))) (by kernel_rfl) (by exact fun _ _ _ h => h) (by rfl) ?_
  simp only [Act.put, List.setIfInBounds_toArray, List.set_cons_zero, List.set_cons_succ]
  refine up_skip (by exact (atS (atS (atS (atS (atS (atS at0))))))) (by kernel_rfl) (by exact fun _ _ _ h => h) (by rfl) ?_
  simp only [Act.put, List.setIfInBounds_toArray, List.set_cons_zero, List.set_cons_succ]
  refine up_skip (by exact (atS (atS (atS (atS (atS (atS (atS at0)))))))) (by kernel_rfl) (by exact fun _ _ _ h => h) (by rfl) ?_
  simp only [Act.put, List.setIfInBounds_toArray, List.set_cons_zero, List.set_cons_succ]
  refine up_skip (by exact (atS (atS (atS (atS (atS (atS (atS (atS at0))))))))) (by kernel_rfl) (by exact fun _ _ _ h => h) (by rfl) ?_
  simp only [Act.put, List.setIfInBounds_toArray, List.set_cons_zero, List.set_cons_succ]
  refine up_take (by exact (atS (atS (atS (atS (atS (atS (atS (atS (atS at0)))))))))) (by kernel_rfl) (by exact fun _ _ _ h => h) (by rfl) (by intro W hW; go_simp; try with_reducible rfl) ?_
  simp only [Act.put, List.setIfInBounds_toArray, List.set_cons_zero, List.set_cons_succ]
  refine up_take (by exact (atS (atS (atS (atS (atS (atS (atS (atS (atS (atS at0))))))))))) (by kernel_rfl) (by exact fun _ _ _ h => h) (by rfl) (by intro W hW; go_simp; try with_reducible rfl) ?_
  simp only [Act.put, List.setIfInBounds_toArray, List.set_cons_zero, List.set_cons_succ]
  refine up_take (by exact (atS (atS (atS (atS (atS (atS (atS (atS (atS (atS (atS at0)))))))))))) (by kernel_rfl) (by exact fun _ _ _ h => h) (by rfl) (by intro W hW; go_simp; try with_reducible rfl) ?_
  simp only [Act.put, List.setIfInBounds_toArray, List.set_cons_zero, List.set_cons_succ]
  refine up_take (by exact (atS (atS (atS (atS (atS (atS (atS (atS (atS (atS (atS (atS (atS at0)))))))))))))) (by kernel_rfl) (by exact fun _ _ _ h => h) (by rfl) (by intro W hW; go_simp; try with_reducible rfl) ?_
  simp only [Act.put, List.setIfInBounds_toArray, List.set_cons_zero, List.set_cons_succ]
  refine up_take (by exact (atS (atS (atS (atS (atS (atS (atS (atS (atS (atS (atS (atS (atS (atS at0))))))))))))))) (by kernel_rfl) (by exact fun _ _ _ h => h) (by rfl) (by intro W hW; go_simp; try with_reducible rfl) ?_
  simp only [Act.put, List.setIfInBounds_toArray, List.set_cons_zero, List.set_cons_succ]
  refine up_take (by exact (atS (atS (atS (atS (atS (atS (atS (atS (atS (atS (atS (atS (atS (atS (atS (atS at0))))))))))))))))) (by kernel_rfl) (by exact fun _ _ _ h => h) (by rfl) (by intro W hW; go_simp; try with_reducible rfl) ?_
  simp only [Act.put, List.setIfInBounds_toArray, List.set_cons_zero, List.set_cons_succ]
  refine up_take (by exact (atS (atS (atS (atS (atS (atS (atS (atS (atS (atS (atS (atS (atS (atS (atS (atS (atS at0)))))))))))))))))) (by kernel_rfl) (by exact fun _ _ _ h => h) (by rfl) (by intro W hW; go_simp; try with_reducible rfl) ?_
  simp only [Act.put, List.setIfInBounds_toArray, List.set_cons_zero, List.set_cons_succ]
  refine up_take (by exact (atS (atS (atS (atS (atS (atS (atS (atS (atS (atS (atS (atS (atS (atS (atS (atS (atS (atS at0))))))))))))))))))) (by kernel_rfl) (by exact fun _ _ _ h => h) (by rfl) (by intro W hW; go_simp; try with_reducible rfl) ?_
  simp only [Act.put, List.setIfInBounds_toArray, List.set_cons_zero, List.set_cons_succ]
  refine up_take (by exact (atS (atS (atS (atS (atS (atS (atS (atS (atS (atS (atS (atS (atS (atS (atS (atS (atS (atS (atS at0)))))))))))))))))))) (by kernel_rfl) (by exact fun _ _ _ h => h) (by rfl) (by intro W hW; have q := cell_up C0.out hW (show ¬ Nil _ from id); go_simp; try with_reducible rfl) ?_
  simp only [Act.put, List.setIfInBounds_toArray, List.set_cons_zero, List.set_cons_succ]
  refine up_one (by exact (atS (atS (atS (atS (atS (atS (atS (atS (atS (atS (atS (atS at0))))))))))))) (by kernel_rfl) (fun K hK => ?_)
  go_simp
  refine (kused HD1.out HU.out).mono ?_
  rintro e w5 ⟨rfl, b5⟩
  refine hK.out _ _ (Kept.below b5) ?_
  clear hK K
  have B5 := Lib.hid (drewB b5)
  clear b5
  refine up_take (by exact (atS (atS (atS (atS (atS (atS (atS (atS (atS (atS (atS (atS (atS (atS (atS at0)))))))))))))))) (by kernel_rfl) (by exact fun _ _ _ h => h) (by rfl) (by intro W hW; go_simp; try with_reducible rfl) ?_
  simp only [Act.put, List.setIfInBounds_toArray, List.set_cons_zero, List.set_cons_succ]
  refine up_take (by exact (atS (atS (atS (atS (atS (atS (atS (atS (atS (atS (atS (atS (atS (atS (atS (atS (atS (atS (atS (atS at0))))))))))))))))))))) (by kernel_rfl) (by exact fun _ _ _ h => h) (by rfl) (by intro W hW; go_simp; try with_reducible rfl) ?_
  simp only [Act.put, List.setIfInBounds_toArray, List.set_cons_zero, List.set_cons_succ]
  refine up_take (by exact (atS (atS (atS (atS (atS (atS (atS (atS (atS (atS (atS (atS (atS (atS (atS (atS (atS (atS (atS (atS (atS at0)))))))))))))))))))))) (by kernel_rfl) (by exact fun _ _ _ h => h) (by rfl) (by intro W hW; go_simp; try with_reducible rfl) ?_
  simp only [Act.put, List.setIfInBounds_toArray, List.set_cons_zero, List.set_cons_succ]
  refine up_done (by kernel_rfl) ?_
  have hd5 := HD0.out.below B5.out
  obtain ⟨hme, hne⟩ := atE_mem HE.out
  have hfe := hd5.2.2.2.2.1 e hme
  have FE := Lib.hid hfe
  obtain ⟨f1, f2, f3, f4⟩ := hfe
  obtain ⟨A0, c0, hA⟩ := row_shape f3
  have HV : Hid (e.v = .slice A0 e.bytes.length c0) := Lib.hid hA
  have x0 : w5.cell? ⟨e.g, 0, none⟩ = some (.slice A0 e.bytes.length c0) := by rw [← hA]; exact f2.cell 0
  rw [hA] at f3
  have F3 := Lib.hid f3
  have hk5 : Kept Nil w' w5 := (Kept.below HB.out).trans (Kept.below B5.out)
  have S5 : Hid (Src w5 (.slice A bl.length c) (bvs bl)) := Lib.hid (HS.out.kept hk5 (fun _ _ => id)).rd.src
  have hbu := used_mem hme
  have LN : Hid (e.bytes.length + bl.length ≤ maxLen ∧ (e.bytes.length + bl.length) * 1 ≤ 140737488355328) := Lib.hid (by have := HU.out; unfold maxLen; omega)
  have LB : Hid (lo ≤ w5.heap.size) := Lib.hid (by have h1 := hd5.1; have h2 := hd5.2.2.1.lt; omega)
  have HD5 := Lib.hid hd5
  have HME := Lib.hid hme
  clear hd5 hne f1 f2 f3 f4 hA hk5 hbu c1 hl hme
  go_wp2_with (at_builtin; go_must (refine wpList_append_srcA _ (by rfl) (.tmp 59) (.tmp 60) 36 (by rfl) lo 5 (.int .u8 0) 1 Try.underlying36 Try.u8info rfl _ (bvs e.bytes) (by rfl) (by exact F3.out) _ (bvs bl) (by rfl) (by exact S5.out) (bvs_one _) (by rw [bvs_length, bvs_length]; exact LN.out.1) (by rw [bvs_length, bvs_length]; exact LN.out.2) (by exact LB.out) ?_); intro v7 w7 hown7 hg7 hat7; rw [← bvs_append] at hown7; obtain ⟨A7, c7, hv7⟩ := row_shape hown7; subst hv7; have hb7 := app_blk FE.out (by rw [HV.out]; exact hg7); have y0 := hb7.free 0; have y1 := hb7.cell 0; have OW := Lib.hid hown7; have HG := Lib.hid hg7; have HA := Lib.hid hat7; clear hown7 hg7 hat7 hb7)
  have hd7 := app_done HD5.out HME.out OW.out (by rw [HV.out]; exact HG.out) (by rw [HV.out]; exact HA.out)
  rw [List.length_append] at hd7
  have HD7 := Lib.hid hd7
  have hA2 := HA.out
  rw [List.length_append] at hA2
  have HA2 := Lib.hid hA2
  clear hd7 y0 y1 hA2
  refine (kspend HD7.out.1 HW.out).mono ?_
  rintro e9 w9 ⟨rfl, hd9, ho9⟩
  have HD9 := Lib.hid hd9
  have HO9 := Lib.hid ho9
  clear hd9 ho9
  go_wp2_with fail
  go_ret
  refine ⟨rfl, _, HD9.out, ?_, ?_, ?_⟩
  · rw [spend_abs]
    unfold absD
    simp only [updA_abs]
    rfl
  · have hb5 : Below w'.heap.size w' w5 := HB.out.trans (B5.out.mono HB.out.size)
    refine ((Below.off (F := Foot g b d.E) hb5).trans (HD7.out.2.wide (G := Foot g b d.E) ?_) fun x hx => .inl hx).trans (HO9.out.wide (G := Foot g b d.E) fun k hk => .inl hk) fun x hx => .inl hx
    exact fun k hk => .inr (.inr ⟨e, HME.out, hk⟩)
  · intro k hk
    rw [spendE] at hk
    rcases foot_upd HME.out (by rfl) hk with h | h
    · exact .inl h
    · rcases HA2.out k h with h | h
      · exact .inl (.inr (.inr ⟨e, HME.out, .inr (by rw [HV.out]; exact h)⟩))
      · exact .inr (Nat.le_trans (HB.out.trans (B5.out.mono HB.out.size)).size h)
set_option maxHeartbeats 3200000 in
theorem kapp_new (h : DiskAt w lo g b d) (ho : d.off = false) (n : List UInt8) (hn : n.length ≤ 1099511627776) (hnm : nameB n = true) (hu : usedE d.E ≤ 1099511627776) (A : Option Addr) (c : Nat) (bl : List UInt8) (hm : bl.length ≤ 1099511627776) (hw : WfK d) (hS : Rdp w (fun k => ¬ Foot g b d.E k) (.slice A bl.length c) bl) (he : atE d.E n = none) (hE : ¬ 64 ≤ d.E.length) (hq : ¬ d.q < (usedE d.E : Int) + (bl.length : Int)) :
    Calls Try.prog 24 #[.pointer (some ⟨g, 0, none⟩), .string (str n), .slice A bl.length c] w (AStep w lo g b d (spendA { absD d with L := putA ⟨n, bl, 0⟩ (d.E.map absF) }) (.int .i64 (spendV d))) := by
  have k1 := kready h
  unfold readyV at k1
  rw [ho, if_neg Bool.false_ne_true] at k1
  have k2 := fun W => kname n W hn
  rw [hnm] at k2
  have K := Lib.hid k1
  have K2 := Lib.hid k2
  have H := Lib.hid h
  have HE := Lib.hid he
  have HU := Lib.hid hu
  have HS := Lib.hid hS
  have HW := Lib.hid hw
  clear k1 k2 ho h hnm he hS hw
  have hge : decide ((64 : Int) ≤ (d.E.length : Int)) = false := decide_eq_false (by omega)
  have hwr : IntKind.i64.wrap ((usedE d.E : Int) + (bl.length : Int)) = (usedE d.E : Int) + (bl.length : Int) := IntWalk.i64_in _ (by omega)
  have hfu : decide (d.q < (usedE d.E : Int) + (bl.length : Int)) = false := decide_eq_false hq
  have HN : Hid (d.E.length < 64) := Lib.hid (by omega)
  go_enter Try.func24, Try.ntmps24
  go_wp2_with (go_at_call 55; refine K.out.mono ?_; rintro e w' ⟨rfl, rfl⟩)
  refine (K2.out _).mono ?_
  rintro e1 w1 ⟨rfl, hb⟩
  have hd1 := H.out.below hb
  have HB := Lib.hid hb
  have c0 : w1.cell? ⟨g, 0, none⟩ = some (.int .i64 d.q) := hd1.2.2.1.cell 0
  have c1 : w1.cell? ⟨g, 1, none⟩ = some (.map (some b)) := hd1.2.2.1.cell 1
  have hl := hd1.2.2.2.1.look n (by unfold maxLen; omega)
  rw [HE.out] at hl
  unfold ptrE at hl
  have C0 : Hid (w1.drew.cell? ⟨g, 0, none⟩ = some (.int .i64 d.q)) := Lib.hid c0
  have C1 : Hid (w1.drew.cell? ⟨g, 1, none⟩ = some (.map (some b))) := Lib.hid c1
  have M1 := Lib.hid hd1.2.2.2.1
  have HD1 : Hid (DiskAt w1.drew lo g b d) := Lib.hid (hd1.keep fun _ _ => rfl)
  have HD0 := Lib.hid hd1
  clear hb hd1 c0
  go_wp2_with fail
  refine up_start Nil (by kernel_rfl) ?_
  refine up_take (by exact at0) (by kernel_rfl) (by exact fun _ _ _ h => h) (by rfl) (by intro W hW; go_simp; try with_reducible rfl) ?_
  simp only [Act.put, List.setIfInBounds_toArray, List.set_cons_zero, List.set_cons_succ]
  refine up_take (by exact (atS at0)) (by kernel_rfl) (by exact fun _ _ _ h => h) (by rfl) (by intro W hW; go_simp; try with_reducible rfl) ?_
  simp only [Act.put, List.setIfInBounds_toArray, List.set_cons_zero, List.set_cons_succ]
  refine up_take (by exact (atS (atS at0))) (by kernel_rfl) (by exact fun _ _ _ h => h) (by rfl) (by intro W hW; go_simp; try with_reducible rfl) ?_
  simp only [Act.put, List.setIfInBounds_toArray, List.set_cons_zero, List.set_cons_succ]
  refine up_take (by exact (atS (atS (atS at0)))) (by kernel_rfl) (by exact fun _ _ _ h => h) (by rfl) (by intro W hW; go_simp; try with_reducible rfl) ?_
  simp only [Act.put, List.setIfInBounds_toArray, List.set_cons_zero, List.set_cons_succ]
  refine up_take (by exact (atS (atS (atS (atS at0))))) (by kernel_rfl) (by exact fun _ _ _ h => h) (by rfl) (by intro W hW; go_simp; try with_reducible rfl) ?_
  simp only [Act.put, List.setIfInBounds_toArray, List.set_cons_zero, List.set_cons_succ]
  refine up_take (by exact (atS (atS (atS (atS (atS at0)))))) (by kernel_rfl) (by exact fun _ _ _ h => h) (by rfl) (by intro W hW; go_simp; try with_reducible rfl) ?_
  simp only [Act.put, List.setIfInBounds_toArray, List.set_cons_zero, List.set_cons_succ]
  refine up_take (by exact (atS (atS (atS (atS (atS (atS at0))))))) (by kernel_rfl) (by exact fun _ _ _ h => h) (by rfl) (by intro W hW; have q := cell_up C1.out hW (show ¬ Nil _ from id); go_simp; try with_reducible rfl) ?_
  simp only [Act.put, List.setIfInBounds_toArray, List.set_cons_zero, List.set_cons_succ]
  refine up_take (by exact (atS (atS (atS (atS (atS (atS (atS at0)))))))) (by kernel_rfl) (by exact fun _ _ _ h => h) (by rfl) (by intro W hW; have q := mlen (map_up M1.out hW); go_simp; try with_reducible rfl) ?_
  simp only [Act.put, List.setIfInBounds_toArray, List.set_cons_zero, List.set_cons_succ]
  refine up_take (by exact (atS (atS (atS (atS (atS (atS (atS (atS at0))))))))) (by kernel_rfl) (by exact fun _ _ _ h => h) (by rfl) (by intro W hW; go_simp; try with_reducible rfl) ?_
  simp only [Act.put, List.setIfInBounds_toArray, List.set_cons_zero, List.set_cons_succ]
  refine up_take (by exact (atS (atS (atS (atS (atS (atS (atS (atS (atS at0)))))))))) (by kernel_rfl) (by exact fun _ _ _ h => h) (by rfl) (by intro W hW; go_simp; try with_reducible rfl) ?_
  simp only [Act.put, List.setIfInBounds_toArray, List.set_cons_zero, List.set_cons_succ]
  refine up_take (by exact (atS (atS (atS (atS (atS (atS (atS (atS (atS (atS at0))))))))))) (by kernel_rfl) (by exact fun _ _ _ h => h) (by rfl) (by intro W hW; go_simp; try with_reducible rfl) ?_
  simp only [Act.put, List.setIfInBounds_toArray, List.set_cons_zero, List.set_cons_succ]
  refine up_take (by exact (atS (atS (atS (atS (atS (atS (atS (atS (atS (atS (atS at0)))))))))))) (by kernel_rfl) (by exact fun _ _ _ h => h) (by rfl) (by intro W hW; go_simp; try with_reducible rfl) ?_
  simp only [Act.put, List.setIfInBounds_toArray, List.set_cons_zero, List.set_cons_succ]
  refine up_take (by exact (atS (atS (atS (atS (atS (atS (atS (atS (atS (atS (atS (atS (atS at0)))))))))))))) (by kernel_rfl) (by exact fun _ _ _ h => h) (by rfl) (by intro W hW; go_simp; try with_reducible rfl) ?_
  simp only [Act.put, List.setIfInBounds_toArray, List.set_cons_zero, List.set_cons_succ]
  refine up_take (by exact (atS (atS (atS (atS (atS (atS (atS (atS (atS (atS (atS (atS (atS (atS at0))))))))))))))) (by kernel_rfl) (by exact fun _ _ _ h => h) (by rfl) (by intro W hW; go_simp; try with_reducible rfl) ?_
  simp only [Act.put, List.setIfInBounds_toArray, List.set_cons_zero, List.set_cons_succ]
  refine up_take (by exact (atS (atS (atS (atS (atS (atS (atS (atS (atS (atS (atS (atS (atS (atS (atS (atS at0))))))))))))))))) (by kernel_rfl) (by exact fun _ _ _ h => h) (by rfl) (by intro W hW; go_simp; try with_reducible rfl) ?_
  simp only [Act.put, List.setIfInBounds_toArray, List.set_cons_zero, List.set_cons_succ]
  refine up_take (by exact (atS (atS (atS (atS (atS (atS (atS (atS (atS (atS (atS (atS (atS (atS (atS (atS (atS at0)))))))))))))))))) (by kernel_rfl) (by exact fun _ _ _ h => h) (by rfl) (by intro W hW; go_simp; try with_reducible rfl) ?_
  simp only [Act.put, List.setIfInBounds_toArray, List.set_cons_zero, List.set_cons_succ]
  refine up_take (by exact (atS (atS (atS (atS (atS (atS (atS (atS (atS (atS (atS (atS (atS (atS (atS (atS (atS (atS at0))))))))))))))))))) (by kernel_rfl) (by exact fun _ _ _ h => h) (by rfl) (by intro W hW; go_simp; try with_reducible rfl) ?_
  simp only [Act.put, List.setIfInBounds_toArray, List.set_cons_zero, List.set_cons_succ]
  refine up_take (by exact (atS (atS (atS (atS (atS (atS (atS (atS (atS (atS (atS (atS (atS (atS (atS (atS (atS (atS (atS at0)))))))))))))))))))) (by kernel_rfl) (by exact fun _ _ _ h => h) (by rfl) (by intro W hW; have q := cell_up C0.out hW (show ¬ Nil _ from id); go_simp; try with_reducible rfl) ?_
  simp only [Act.put, List.setIfInBounds_toArray, List.set_cons_zero, List.set_cons_succ]
  refine up_one (by exact (atS (atS (atS (atS (atS (atS (atS (atS (atS (atS (atS (atS at0))))))))))))) (by kernel_rfl) (fun K hK => ?_)
  go_simp
  refine (kused HD1.out HU.out).mono ?_
  rintro e w5 ⟨rfl, b5⟩
  refine hK.out _ _ (Kept.below b5) ?_
  clear hK K
  have B5 := Lib.hid (drewB b5)
  clear b5
  refine up_take (by exact (atS (atS (atS (atS (atS (atS (atS (atS (atS (atS (atS (atS (atS (atS (atS at0)))))))))))))))) (by kernel_rfl) (by exact fun _ _ _ h => h) (by rfl) (by intro W hW; go_simp; try with_reducible rfl) ?_
  simp only [Act.put, List.setIfInBounds_toArray, List.set_cons_zero, List.set_cons_succ]
  refine up_take (by exact (atS (atS (atS (atS (atS (atS (atS (atS (atS (atS (atS (atS (atS (atS (atS (atS (atS (atS (atS (atS at0))))))))))))))))))))) (by kernel_rfl) (by exact fun _ _ _ h => h) (by rfl) (by intro W hW; go_simp; try with_reducible rfl) ?_
  simp only [Act.put, List.setIfInBounds_toArray, List.set_cons_zero, List.set_cons_succ]
  refine up_take (by exact (atS (atS (atS (atS (atS (atS (atS (atS (atS (atS (atS (atS (atS (atS (atS (atS (atS (atS (atS (atS (atS at0)))))))))))))))))))))) (by kernel_rfl) (by exact fun _ _ _ h => h) (by rfl) (by intro W hW; go_simp; try with_reducible rfl) ?_
  simp only [Act.put, List.setIfInBounds_toArray, List.set_cons_zero, List.set_cons_succ]
  refine up_done (by kernel_rfl) ?_
  have hb5 : Below w'.heap.size w' w5 := HB.out.trans (B5.out.mono HB.out.size)
  have hd5 := HD0.out.below B5.out
  have x1 : w5.cell? ⟨g, 1, none⟩ = some (.map (some b)) := hd5.2.2.1.cell 1
  have HB5 := Lib.hid hb5
  have HD5 := Lib.hid hd5
  have hgr : w5.grownBy (w5.alloc (.cells #[.slice none 0 0, .int .i64 0] 82)) none := World.grownBy_alloc _ _ _
  have hd6 : DiskAt (w5.alloc (.cells #[.slice none 0 0, .int .i64 0] 82)) lo g b d := hd5.keep fun k hk => hgr.block k (hd5.lt k hk).2 (by simp)
  have HD6 := Lib.hid hd6
  have x2 : (w5.alloc (.cells #[.slice none 0 0, .int .i64 0] 82)).cell? ⟨g, 1, none⟩ = some (.map (some b)) := hd6.2.2.1.cell 1
  have HLEN : Hid (d.E.length < maxLen) := Lib.hid (by have := HN.out; unfold maxLen; omega)
  clear hb5 hd5 hd6 hgr c1 hl
  go_wp2_with (first
    | (at_mapUpdate; go_must (refine wpList_mapUpdate_in _ (by rfl) _ _ _ _ (by rfl) 9 79 Try.keyed Try.underlying62 ptrR b d.E.length (mapD d.E) (by rfl) (by exact HD6.out.2.2.2.1) HLEN.out (.string (str n)) (.pointer (some ⟨w5.heap.size, 0, none⟩)) (.string n) (by rfl) (by rfl) (keyName n (by unfold maxLen; omega)) _ _ (ptrR_some w5.heap.size) ?_); intro w6 hown6 ht6; have hnw := app_new HB5.out HD5.out HS.out HD6.out hown6 ht6; obtain ⟨n1, n2, n3, n4, n5, n6⟩ := hnw; have x6 : w6.cell? ⟨w5.heap.size, 0, none⟩ = some (.slice none 0 0) := n2.cell 0; have S5 := Lib.hid n3; have F3 := Lib.hid n4; have HD := Lib.hid n1; have HK := Lib.hid n5; have FE := Lib.hid (n1.2.2.2.2.1 _ (put_mem ⟨n, w5.heap.size, .slice none 0 0, [], 0⟩ d.E)); have LB := Lib.hid n6; have LN : Hid ((([] : List UInt8).length + bl.length) ≤ maxLen ∧ (([] : List UInt8).length + bl.length) * 1 ≤ 140737488355328) := Lib.hid (by unfold maxLen; simp only [List.length_nil]; omega); have HV : Hid ((KEnt.mk n w5.heap.size (.slice none 0 0) [] 0).v = .slice none 0 0) := Lib.hid rfl; clear hown6 ht6 n1 n2 n3 n4 n5 n6)
    | (at_builtin; go_must (refine wpList_append_srcA _ (by rfl) (.tmp 59) (.tmp 60) 36 (by rfl) lo 5 (.int .u8 0) 1 Try.underlying36 Try.u8info rfl _ (bvs []) (by rfl) (by exact F3.out) _ (bvs bl) (by rfl) (by exact S5.out) (bvs_one _) (by rw [bvs_length, bvs_length]; exact LN.out.1) (by rw [bvs_length, bvs_length]; exact LN.out.2) (by exact LB.out) ?_); intro v7 w7 hown7 hg7 hat7; rw [← bvs_append] at hown7; obtain ⟨A7, c7, hv7⟩ := row_shape hown7; subst hv7; have hb7 := app_blk FE.out (by rw [HV.out]; exact hg7); have y0 := hb7.free 0; have y1 := hb7.cell 0; have OW := Lib.hid hown7; have HG := Lib.hid hg7; have HA := Lib.hid hat7; clear hown7 hg7 hat7 hb7))
  have hd7 := app_done HD.out (e := ⟨n, w5.heap.size, .slice none 0 0, [], 0⟩) (put_mem _ _) OW.out HG.out HA.out
  have HD7 := Lib.hid hd7
  clear hd7 y0 y1 x6 x1 x2
  refine (kspend HD7.out.1 HW.out).mono ?_
  rintro e9 w9 ⟨rfl, hd9, ho9⟩
  have HD9 := Lib.hid hd9
  have HO9 := Lib.hid ho9
  clear hd9 ho9
  go_wp2_with fail
  go_ret
  refine ⟨rfl, _, HD9.out, ?_, ?_, ?_⟩
  · rw [spend_abs]
    unfold absD
    have hu2 := upd_put ⟨n, w5.heap.size, .slice none 0 0, [], 0⟩ ⟨n, w5.heap.size, .slice A7 ([] ++ bl).length c7, [] ++ bl, 0⟩ rfl d.E
    simp only [hu2, putA_abs]
    rfl
  · have hsz := HB5.out.size
    refine (HK.out.trans HD7.out.2 ?_).trans (HO9.out.wide (G := Foot g b d.E) fun k hk => .inl hk) fun x hx => .inl hx
    rintro x (rfl | hx)
    · exact .inr hsz
    · cases hx
  · intro k hk
    rw [spendE] at hk
    have hsz := HB5.out.size
    have hsz6 := HK.out.2.2.2.1
    rcases foot_upd (put_mem _ _) (by rfl) hk with h | h
    · rcases h with rfl | rfl | ⟨x, hx, hk2⟩
      · exact .inl (.inl rfl)
      · exact .inl (.inr (.inl rfl))
      · rcases put_sub hx with rfl | hx
        · rcases hk2 with rfl | hk2
          · exact .inr hsz
          · cases hk2
        · exact .inl (.inr (.inr ⟨x, hx, hk2⟩))
    · rcases HA.out k h with h | h
      · cases h
      · exact .inr (Nat.le_trans hsz6 h)

theorem made_step {v : Value} {e : Ending} {w' : World} (h : DiskAt w lo g b d) (hm : Made w v e w') : AStep w lo g b d (absD d) v e w' := ⟨hm.1, d, h.below hm.2, rfl, Below.off hm.2, fun _ hk => .inl hk⟩
theorem full_abs (n bl : List UInt8) : fullA (absD d) n bl = (((atE d.E n).isNone && decide (64 ≤ d.E.length)) || decide (d.q < (usedE d.E : Int) + (bl.length : Int))) := by
  unfold fullA
  show (((atA (d.E.map absF) n).isNone && decide (64 ≤ (d.E.map absF).length)) || decide (d.q < ((usedA (d.E.map absF) + bl.length : Nat) : Int))) = _
  rw [atA_abs, usedA_abs, List.length_map, Int.natCast_add]
  cases atE d.E n <;> rfl
theorem aappend (h : DiskAt w lo g b d) (hw : WfA (absD d)) (n : List UInt8) (hn : n.length ≤ 1099511627776) (A : Option Addr) (c : Nat) (bl : List UInt8) (hm : bl.length ≤ 1099511627776) (hS : Rdp w (fun k => ¬ Foot g b d.E k) (.slice A bl.length c) bl) :
    Calls Try.prog 24 #[.pointer (some ⟨g, 0, none⟩), .string (str n), .slice A bl.length c] w (AStep w lo g b d (appendA (absD d) n bl) (.int .i64 (appendAV (absD d) n bl))) := by
  obtain ⟨hk, hE, hu⟩ := hw.k
  unfold appendA appendAV
  show Calls _ _ _ _ (AStep w lo g b d (if d.off = true then _ else _) (.int .i64 (if d.off = true then _ else _)))
  cases ho : d.off with
  | true =>
    rw [if_pos rfl, if_pos rfl]
    refine (kapp_off h ho n _).mono ?_
    rintro e w' ⟨rfl, rfl⟩
    exact made_step h ⟨rfl, Below.refl _ _⟩
  | false =>
    rw [if_neg Bool.false_ne_true, if_neg Bool.false_ne_true]
    cases hnm : nameB n with
    | false =>
      rw [if_pos rfl, if_pos rfl]
      exact (kapp_name h ho n hn hnm _).mono fun e w' hx => made_step h hx
    | true =>
      have hne : ¬ (true = false) := by decide
      rw [if_neg hne, if_neg hne, full_abs]
      cases he : atE d.E n with
      | none =>
        by_cases hE64 : 64 ≤ d.E.length
        · have ht : ((Option.isNone (none : Option KEnt) && decide (64 ≤ d.E.length)) || decide (d.q < (usedE d.E : Int) + (bl.length : Int))) = true := by rw [decide_eq_true hE64]; rfl
          rw [ht, if_pos rfl, if_pos rfl]
          exact (kapp_full1 h ho n hn hnm hu A _ c he hE64).mono fun e w' hx => made_step h hx
        · by_cases hq : d.q < (usedE d.E : Int) + (bl.length : Int)
          · have ht : ((Option.isNone (none : Option KEnt) && decide (64 ≤ d.E.length)) || decide (d.q < (usedE d.E : Int) + (bl.length : Int))) = true := by rw [decide_eq_true hq, Bool.or_true]
            rw [ht, if_pos rfl, if_pos rfl]
            exact (kapp_full2 h ho n hn hnm hu A _ c hm he hE64 hq).mono fun e w' hx => made_step h hx
          · have ht : ((Option.isNone (none : Option KEnt) && decide (64 ≤ d.E.length)) || decide (d.q < (usedE d.E : Int) + (bl.length : Int))) = false := by rw [decide_eq_false hq, decide_eq_false hE64]; rfl
            rw [ht, if_neg Bool.false_ne_true, if_neg Bool.false_ne_true]
            have hL : grownL (absD d).L n bl = putA ⟨n, bl, 0⟩ (d.E.map absF) := by
              unfold grownL
              show (match atA (d.E.map absF) n with | some e => _ | none => _) = _
              rw [atA_abs, he]
              rfl
            rw [hL]
            exact kapp_new h ho n hn hnm hu A c bl hm hk hS he hE64 hq
      | some e =>
        by_cases hq : d.q < (usedE d.E : Int) + (bl.length : Int)
        · have ht : ((Option.isNone (some e) && decide (64 ≤ d.E.length)) || decide (d.q < (usedE d.E : Int) + (bl.length : Int))) = true := by rw [decide_eq_true hq, Bool.or_true]
          rw [ht, if_pos rfl, if_pos rfl]
          exact (kapp_full3 h ho n hn hnm hu A _ c hm he hq).mono fun e w' hx => made_step h hx
        · have ht : ((Option.isNone (some e) && decide (64 ≤ d.E.length)) || decide (d.q < (usedE d.E : Int) + (bl.length : Int))) = false := by rw [decide_eq_false hq]; rfl
          rw [ht, if_neg Bool.false_ne_true, if_neg Bool.false_ne_true]
          have hL : grownL (absD d).L n bl = updA { absF e with bytes := e.bytes ++ bl } (d.E.map absF) := by
            unfold grownL
            show (match atA (d.E.map absF) n with | some e => _ | none => _) = _
            rw [atA_abs, he]
            rfl
          rw [hL]
          exact kapp_old h ho n hn hnm hu A c bl hm hk hS he hq
end
end Go.Proofs.Ytincdegoiknfhab
