/-
  One call of both disks (newsstandlaw03.Do): they answer the same, and are the same then. Conditions: sizes within what an int holds; names' lengths are lengths.
-/
import Derived.Test.YtincdegoiknfhabJApp
import Derived.Test.YtincdegoiknfhabJCrash
import Derived.Test.YtincdegoiknfhabKLives
namespace Go.Proofs.Ytincdegoiknfhab
open Go.RowKit

/-- Both disks, which have no block in common. -/
def Pair (w : World) (lo g b : Nat) (d : KDisk) (gx : Nat) (x : RDisk) : Prop := DiskAt w lo g b d ∧ RDiskAt w lo gx x ∧ ∀ k, Foot g b d.E k → ¬ RFoot gx x k
theorem Pair.below {w w' : World} {lo g b : Nat} {d : KDisk} {gx : Nat} {x : RDisk} (h : Pair w lo g b d gx x) (hb : Below w.heap.size w w') : Pair w' lo g b d gx x := ⟨h.1.below hb, h.2.1.below hb, h.2.2⟩
theorem RStep.off {w w' : World} {lo g : Nat} {d : RDisk} {A' : ADisk} {v : Value} {e : Ending} (h : RStep w lo g d A' v e w') : KeptOff (RW g d) w w' := by
  obtain ⟨_, d', _, _, hk, _⟩ := h
  exact hk
/-- The program's disk takes a step. -/
theorem Pair.stepK {w w' : World} {lo g b : Nat} {d : KDisk} {gx : Nat} {x : RDisk} {A' : ADisk} {v : Value} {e : Ending} (h : Pair w lo g b d gx x) (hs : AStep w lo g b d A' v e w') :
    e = .returned v ∧ KeptOff (Foot g b d.E) w w' ∧ Below lo w w' ∧ ∃ d', Pair w' lo g b d' gx x ∧ absD d' = A' := by
  have hb := hs.below h.1
  obtain ⟨h1, d', hd, ha, ho, hf⟩ := hs
  refine ⟨h1, ho, hb, d', ⟨hd, h.2.1.off_ ho fun k hk hk' => h.2.2 k hk' hk, fun k hk hk' => ?_⟩, ha⟩
  rcases hf k hk with h3 | h3
  · exact h.2.2 k h3 hk'
  · have := (h.2.1.lt k hk').2; omega
/-- The document's disk takes a step. -/
theorem Pair.stepR {w w' : World} {lo g b : Nat} {d : KDisk} {gx : Nat} {x : RDisk} {A' : ADisk} {v : Value} {e : Ending} (h : Pair w lo g b d gx x) (hs : RStep w lo gx x A' v e w') :
    e = .returned v ∧ KeptOff (RW gx x) w w' ∧ Below lo w w' ∧ ∃ x', Pair w' lo g b d gx x' ∧ absR x' = A' := by
  have ho := hs.off
  obtain ⟨h1, x', hx, ha, _, hf⟩ := hs
  refine ⟨h1, ho, ho.below (fun k hk => (h.2.1.rw_lt k hk).1) (by have := h.2.1.ltg; omega), x', ⟨h.1.off_ ho fun k hk hk' => h.2.2 k hk hk'.foot, hx, fun k hk hk' => ?_⟩, ha⟩
  rcases hf k hk' with h3 | h3
  · exact h.2.2 k hk h3
  · have := (h.1.lt k hk).2; omega
theorem rise_of {w : World} {lo g b : Nat} {d : KDisk} (h : DiskAt w lo g b d) : RiseA (absD d).L := by
  have hs := h.2.2.2.1.sorted
  unfold RiseA
  show (d.E.map absF).Pairwise _
  rw [List.pairwise_map]
  rw [List.pairwise_map] at hs
  exact hs.imp fun hab => (bb_iff _ _).1 hab
theorem KeptOff.kept {F D : Nat → Prop} {w w' : World} (h : KeptOff F w w') (hF : ∀ k, F k → D k) : Kept D w w' := ⟨h.1, h.2.1, h.2.2.1, h.2.2.2.1, fun k hk hd => h.2.2.2.2 k hk fun hf => hd (hF k hf)⟩
/-- A call, as it came in: its bytes and its numbers lie below lo. -/
structure AOp where
  kind : Int
  a : List UInt8
  b : List UInt8
  n : Int
  data : List UInt8
  keep : List Int
def OpAt (w : World) (lo : Nat) (v : Value) (o : AOp) : Prop := ∃ Ad cd Ak ck, v = .agg #[.int .i64 o.kind, .string (str o.a), .string (str o.b), .int .i64 o.n, .slice Ad o.data.length cd, .slice Ak o.keep.length ck] ∧ Rdp w (· < lo) (.slice Ad o.data.length cd) o.data ∧ RdK w (· < lo) (.slice Ak o.keep.length ck) o.keep ∧ o.a.length ≤ maxLen ∧ o.b.length ≤ maxLen
def doA (A : ADisk) (o : AOp) : ADisk :=
  if o.kind = 1 then appendA A o.a o.data else if o.kind = 2 then syncA A o.a else if o.kind = 3 then renameA A o.a o.b else if o.kind = 4 then deleteA A o.a else if o.kind = 6 then stopA A o.n else if o.kind = 7 then crashA A o.keep else A
def Done (w : World) (lo g b : Nat) (gx : Nat) (A' : ADisk) (e : Ending) (w' : World) : Prop := e = .returned (.bool true) ∧ Below lo w w' ∧ ∃ d x, Pair w' lo g b d gx x ∧ absD d = A' ∧ absR x = A'
theorem Rdp.up {w w' : World} {lo : Nat} {A : Nat → Prop} {v : Value} {l : List UInt8} (h : Rdp w (· < lo) v l) (hb : Below lo w w') (hA : ∀ k, k < lo → A k) : Rdp w' A v l := (h.kept (D := fun k => lo ≤ k) ⟨hb.os, hb.tape, hb.output, hb.size, fun k _ hk => hb.block k (by have : ¬ lo ≤ k := hk; omega)⟩ (fun b h1 h2 => by have : b < lo := h1; have : lo ≤ b := h2; omega)).mono hA
theorem RdK.up {w w' : World} {lo : Nat} {A : Nat → Prop} {v : Value} {l : List Int} (h : RdK w (· < lo) v l) (hb : Below lo w w') (hA : ∀ k, k < lo → A k) : RdK w' A v l := by
  obtain ⟨Ad, c, h1, h2, h3, h4⟩ := h
  refine ⟨Ad, c, h1, h2, h3, fun hn => ?_⟩
  obtain ⟨b, o, e1, e2, e3, e4⟩ := h4 hn
  exact ⟨b, o, e1, hA b e2, Nat.lt_of_lt_of_le e3 hb.size, fun j hj => (World.cell?_of_block (w := w) (hb.block b e2)).trans (e4 j hj)⟩
section
variable {w : World} {lo g b : Nat} {d : KDisk} {gx : Nat} {x : RDisk}
theorem foot_lo (h : DiskAt w lo g b d) (k : Nat) (hk : k < lo) : ¬ Foot g b d.E k := fun hf => by have := (h.lt k hf).1; omega
theorem rfoot_lo (h : RDiskAt w lo gx x) (k : Nat) (hk : k < lo) : ¬ RW gx x k := fun hf => by have := (h.rw_lt k hf).1; omega
set_option maxHeartbeats 3200000 in
set_option maxRecDepth 100000 in
theorem rdo1 (hP : Pair w lo g b d gx x) (hab : absD d = absR x) (hw : WfA (absD d)) (hnm : NamesA (absD d)) {v : Value} {o : AOp} (ho : OpAt w lo v o) (hsa : o.a.length ≤ 1099511627776) (hsb : o.b.length ≤ 1099511627776) (hsd : o.data.length ≤ 1099511627776) (hk : o.kind = 1) :
    Calls Try.prog 13 #[.pointer (some ⟨g, 0, none⟩), .pointer (some ⟨gx, 0, none⟩), v] w (Done w lo g b gx (appendA (absD d) o.a o.data)) := by
  obtain ⟨Ad, cd, Ak, ck, rfl, hrd, hrk, hla, hlb⟩ := ho
  have HRD := Lib.hid hrd
  have HRK := Lib.hid hrk
  have hP1 : Pair (w.alloc (.cells #[.int .i64 o.kind, .string (str o.a), .string (str o.b), .int .i64 o.n, .slice Ad o.data.length cd, .slice Ak o.keep.length ck] 39)) lo g b d gx x := hP.below ((Below.refl _ _).alloc (Nat.le_refl _) _)
  have HP1 := Lib.hid hP1
  have hlo : lo ≤ w.heap.size := by have := hP.1.lt g (.inl rfl); omega
  have HB1 : Hid (Below lo w (w.alloc (.cells #[.int .i64 o.kind, .string (str o.a), .string (str o.b), .int .i64 o.n, .slice Ad o.data.length cd, .slice Ak o.keep.length ck] 39))) := Lib.hid ((Below.refl lo w).alloc hlo _)
  have BX : Hid (Blk (w.alloc (.cells #[.int .i64 o.kind, .string (str o.a), .string (str o.b), .int .i64 o.n, .slice Ad o.data.length cd, .slice Ak o.keep.length ck] 39)) w.heap.size 39 #[.int .i64 o.kind, .string (str o.a), .string (str o.b), .int .i64 o.n, .slice Ad o.data.length cd, .slice Ak o.keep.length ck]) := Lib.hid (Blk.fresh _ _ _)
  have HWD := Lib.hid hw
  have HWX : Hid (WfA (absR x)) := Lib.hid (by rw [← hab]; exact hw)
  have HRX : Hid (RiseA (absR x).L) := Lib.hid (by rw [← hab]; exact rise_of hP.1)
  have HAB := Lib.hid hab
  have HLA2 := Lib.hid hla
  have HLB2 := Lib.hid hlb
  have HLA := Lib.hid hsa
  have HLB := Lib.hid hsb
  have HLD := Lib.hid hsd
  have HNM := Lib.hid hnm
  have HNB : Hid (¬ Foot g b d.E w.heap.size ∧ ¬ RFoot gx x w.heap.size) := Lib.hid ⟨fun h => by have := (hP.1.lt _ h).2; omega, fun h => by have := (hP.2.1.lt _ h).2; omega⟩
  rw [hk] at HB1 BX HP1
  rw [hk]
  have x0 := BX.out.cell 0
  clear hP hP1 hab hw hnm hrd hrk hla hlb hsa hsb hsd hlo hk
  go_enter Try.func13, Try.ntmps13
  go_wp2_with fail
  have HPd : Hid (Pair (w.alloc (.cells #[.int .i64 1, .string (str o.a), .string (str o.b), .int .i64 o.n, .slice Ad o.data.length cd, .slice Ak o.keep.length ck] 39)).drew lo g b d gx x) := Lib.hid (HP1.out.below ⟨rfl, rfl, rfl, Nat.le_refl _, fun _ _ => rfl⟩)
  have HBd : Hid (Below lo w (w.alloc (.cells #[.int .i64 1, .string (str o.a), .string (str o.b), .int .i64 o.n, .slice Ad o.data.length cd, .slice Ak o.keep.length ck] 39)).drew) := Lib.hid (drew_b HB1.out)
  have NB : Hid (¬ (fun k => Foot g b d.E k ∨ RFoot gx x k ∨ w.heap.size + 1 ≤ k) w.heap.size) := Lib.hid (by rintro (h | h | h); exact HNB.out.1 h; exact HNB.out.2 h; omega)
  have Z1 : Hid ((w.alloc (.cells #[.int .i64 1, .string (str o.a), .string (str o.b), .int .i64 o.n, .slice Ad o.data.length cd, .slice Ak o.keep.length ck] 39)).drew.cell? ⟨w.heap.size, 1, none⟩ = some (.string (str o.a))) := Lib.hid (BX.out.cell 1)
  have Z4 : Hid ((w.alloc (.cells #[.int .i64 1, .string (str o.a), .string (str o.b), .int .i64 o.n, .slice Ad o.data.length cd, .slice Ak o.keep.length ck] 39)).drew.cell? ⟨w.heap.size, 4, none⟩ = some (.slice Ad o.data.length cd)) := Lib.hid (BX.out.cell 4)
  clear x0
  refine up_start (fun k => Foot g b d.E k ∨ RFoot gx x k ∨ w.heap.size + 1 ≤ k) (by kernel_rfl) ?_
  refine up_take (by exact at0) (by kernel_rfl) (by exact fun _ _ _ h => h) (by rfl) (by intro W hW; go_simp; try with_reducible rfl) ?_
  simp only [Act.put, List.setIfInBounds_toArray, List.set_cons_zero, List.set_cons_succ]
  refine up_take (by exact (atS at0)) (by kernel_rfl) (by exact fun _ _ _ h => h) (by rfl) (by intro W hW; go_simp; try with_reducible rfl) ?_
  simp only [Act.put, List.setIfInBounds_toArray, List.set_cons_zero, List.set_cons_succ]
  refine up_take (by exact (atS (atS at0))) (by kernel_rfl) (by exact fun _ _ _ h => h) (by rfl) (by intro W hW; have q := cell_up Z1.out hW (by exact NB.out); go_simp; try with_reducible rfl) ?_
  simp only [Act.put, List.setIfInBounds_toArray, List.set_cons_zero, List.set_cons_succ]
  refine up_take (by exact (atS (atS (atS at0)))) (by kernel_rfl) (by exact fun _ _ _ h => h) (by rfl) (by intro W hW; go_simp; try with_reducible rfl) ?_
  simp only [Act.put, List.setIfInBounds_toArray, List.set_cons_zero, List.set_cons_succ]
  refine up_take (by exact (atS (atS (atS (atS at0))))) (by kernel_rfl) (by exact fun _ _ _ h => h) (by rfl) (by intro W hW; have q := cell_up Z4.out hW (by exact NB.out); go_simp; try with_reducible rfl) ?_
  simp only [Act.put, List.setIfInBounds_toArray, List.set_cons_zero, List.set_cons_succ]
  refine up_take (by exact (atS (atS (atS (atS (atS (atS at0))))))) (by kernel_rfl) (by exact fun _ _ _ h => h) (by rfl) (by intro W hW; go_simp; try with_reducible rfl) ?_
  simp only [Act.put, List.setIfInBounds_toArray, List.set_cons_zero, List.set_cons_succ]
  refine up_take (by exact (atS (atS (atS (atS (atS (atS (atS at0)))))))) (by kernel_rfl) (by exact fun _ _ _ h => h) (by rfl) (by intro W hW; go_simp; try with_reducible rfl) ?_
  simp only [Act.put, List.setIfInBounds_toArray, List.set_cons_zero, List.set_cons_succ]
  refine up_take (by exact (atS (atS (atS (atS (atS (atS (atS (atS at0))))))))) (by kernel_rfl) (by exact fun _ _ _ h => h) (by rfl) (by intro W hW; have q := cell_up Z1.out hW (by exact NB.out); go_simp; try with_reducible rfl) ?_
  simp only [Act.put, List.setIfInBounds_toArray, List.set_cons_zero, List.set_cons_succ]
  refine up_take (by exact (atS (atS (atS (atS (atS (atS (atS (atS (atS at0)))))))))) (by kernel_rfl) (by exact fun _ _ _ h => h) (by rfl) (by intro W hW; go_simp; try with_reducible rfl) ?_
  simp only [Act.put, List.setIfInBounds_toArray, List.set_cons_zero, List.set_cons_succ]
  refine up_take (by exact (atS (atS (atS (atS (atS (atS (atS (atS (atS (atS at0))))))))))) (by kernel_rfl) (by exact fun _ _ _ h => h) (by rfl) (by intro W hW; have q := cell_up Z4.out hW (by exact NB.out); go_simp; try with_reducible rfl) ?_
  simp only [Act.put, List.setIfInBounds_toArray, List.set_cons_zero, List.set_cons_succ]
  refine up_one (by exact (atS (atS (atS (atS (atS at0)))))) (by kernel_rfl) (fun K hK => ?_)
  go_simp
  refine (aappend HPd.out.1 HWD.out o.a HLA.out Ad cd o.data HLD.out (HRD.out.up HBd.out (foot_lo HPd.out.1))).mono ?_
  intro eK wK hsK
  obtain ⟨rfl, hoK, hbK, dK, hPK, haK⟩ := HPd.out.stepK hsK
  clear hsK
  refine hK.out _ _ (hoK.kept fun k hk => .inl hk) ?_
  clear hK K
  have HPK := Lib.hid hPK
  have HAK := Lib.hid haK
  have HBK : Hid (Below lo w wK) := Lib.hid ((HBd.out).trans hbK)
  clear hPK haK hbK hoK
  refine up_one (by exact (atS (atS (atS (atS (atS (atS (atS (atS (atS (atS (atS at0)))))))))))) (by kernel_rfl) (fun K hK => ?_)
  go_simp
  have hR := rappend HPK.out.2.1 HWX.out HRX.out o.a HLA2.out Ad cd o.data HLD.out (HRD.out.up HBK.out (rfoot_lo HPK.out.2.1))
  rw [← HAB.out] at hR
  refine hR.mono ?_
  intro eR wR hsR
  obtain ⟨rfl, hoR, hbR, xR, hPR, haR⟩ := HPK.out.stepR hsR
  clear hsR
  refine hK.out _ _ (hoR.kept fun k hk => .inr (.inl hk.foot)) ?_
  clear hK K
  have HPR := Lib.hid hPR
  have HAR := Lib.hid haR
  have HBR : Hid (Below lo w wR) := Lib.hid ((HBK.out).trans hbR)
  clear hR hPR haR hbR hoR
  refine up_take (by exact (atS (atS (atS (atS (atS (atS (atS (atS (atS (atS (atS (atS at0))))))))))))) (by kernel_rfl) (by exact fun _ _ _ h => h) (by rfl) (by intro W hW; go_simp; try with_reducible rfl) ?_
  simp only [Act.put, List.setIfInBounds_toArray, List.set_cons_zero, List.set_cons_succ]
  refine up_take (by exact (atS (atS (atS (atS (atS (atS (atS (atS (atS (atS (atS (atS (atS at0)))))))))))))) (by kernel_rfl) (by exact fun _ _ _ h => h) (by rfl) (by intro W hW; go_simp; try with_reducible rfl) ?_
  simp only [Act.put, List.setIfInBounds_toArray, List.set_cons_zero, List.set_cons_succ]
  refine up_done (by kernel_rfl) ?_
  go_wp2_with fail
  go_ret
  exact ⟨rfl, HBR.out, _, _, HPR.out, HAK.out, HAR.out⟩
set_option maxHeartbeats 3200000 in
set_option maxRecDepth 100000 in
theorem rdo2 (hP : Pair w lo g b d gx x) (hab : absD d = absR x) (hw : WfA (absD d)) (hnm : NamesA (absD d)) {v : Value} {o : AOp} (ho : OpAt w lo v o) (hsa : o.a.length ≤ 1099511627776) (hsb : o.b.length ≤ 1099511627776) (hsd : o.data.length ≤ 1099511627776) (hk : o.kind = 2) :
    Calls Try.prog 13 #[.pointer (some ⟨g, 0, none⟩), .pointer (some ⟨gx, 0, none⟩), v] w (Done w lo g b gx (syncA (absD d) o.a)) := by
  obtain ⟨Ad, cd, Ak, ck, rfl, hrd, hrk, hla, hlb⟩ := ho
  have HRD := Lib.hid hrd
  have HRK := Lib.hid hrk
  have hP1 : Pair (w.alloc (.cells #[.int .i64 o.kind, .string (str o.a), .string (str o.b), .int .i64 o.n, .slice Ad o.data.length cd, .slice Ak o.keep.length ck] 39)) lo g b d gx x := hP.below ((Below.refl _ _).alloc (Nat.le_refl _) _)
  have HP1 := Lib.hid hP1
  have hlo : lo ≤ w.heap.size := by have := hP.1.lt g (.inl rfl); omega
  have HB1 : Hid (Below lo w (w.alloc (.cells #[.int .i64 o.kind, .string (str o.a), .string (str o.b), .int .i64 o.n, .slice Ad o.data.length cd, .slice Ak o.keep.length ck] 39))) := Lib.hid ((Below.refl lo w).alloc hlo _)
  have BX : Hid (Blk (w.alloc (.cells #[.int .i64 o.kind, .string (str o.a), .string (str o.b), .int .i64 o.n, .slice Ad o.data.length cd, .slice Ak o.keep.length ck] 39)) w.heap.size 39 #[.int .i64 o.kind, .string (str o.a), .string (str o.b), .int .i64 o.n, .slice Ad o.data.length cd, .slice Ak o.keep.length ck]) := Lib.hid (Blk.fresh _ _ _)
  have HWD := Lib.hid hw
  have HWX : Hid (WfA (absR x)) := Lib.hid (by rw [← hab]; exact hw)
  have HRX : Hid (RiseA (absR x).L) := Lib.hid (by rw [← hab]; exact rise_of hP.1)
  have HAB := Lib.hid hab
  have HLA2 := Lib.hid hla
  have HLB2 := Lib.hid hlb
  have HLA := Lib.hid hsa
  have HLB := Lib.hid hsb
  have HLD := Lib.hid hsd
  have HNM := Lib.hid hnm
  have HNB : Hid (¬ Foot g b d.E w.heap.size ∧ ¬ RFoot gx x w.heap.size) := Lib.hid ⟨fun h => by have := (hP.1.lt _ h).2; omega, fun h => by have := (hP.2.1.lt _ h).2; omega⟩
  rw [hk] at HB1 BX HP1
  rw [hk]
  have x0 := BX.out.cell 0
  clear hP hP1 hab hw hnm hrd hrk hla hlb hsa hsb hsd hlo hk
  go_enter Try.func13, Try.ntmps13
  go_wp2_with fail
  have HPd : Hid (Pair (w.alloc (.cells #[.int .i64 2, .string (str o.a), .string (str o.b), .int .i64 o.n, .slice Ad o.data.length cd, .slice Ak o.keep.length ck] 39)).drew lo g b d gx x) := Lib.hid (HP1.out.below ⟨rfl, rfl, rfl, Nat.le_refl _, fun _ _ => rfl⟩)
  have HBd : Hid (Below lo w (w.alloc (.cells #[.int .i64 2, .string (str o.a), .string (str o.b), .int .i64 o.n, .slice Ad o.data.length cd, .slice Ak o.keep.length ck] 39)).drew) := Lib.hid (drew_b HB1.out)
  have NB : Hid (¬ (fun k => Foot g b d.E k ∨ RFoot gx x k ∨ w.heap.size + 1 ≤ k) w.heap.size) := Lib.hid (by rintro (h | h | h); exact HNB.out.1 h; exact HNB.out.2 h; omega)
  have Z1 : Hid ((w.alloc (.cells #[.int .i64 2, .string (str o.a), .string (str o.b), .int .i64 o.n, .slice Ad o.data.length cd, .slice Ak o.keep.length ck] 39)).drew.cell? ⟨w.heap.size, 1, none⟩ = some (.string (str o.a))) := Lib.hid (BX.out.cell 1)
  clear x0
  refine up_start (fun k => Foot g b d.E k ∨ RFoot gx x k ∨ w.heap.size + 1 ≤ k) (by kernel_rfl) ?_
  refine up_take (by exact at0) (by kernel_rfl) (by exact fun _ _ _ h => h) (by rfl) (by intro W hW; go_simp; try with_reducible rfl) ?_
  simp only [Act.put, List.setIfInBounds_toArray, List.set_cons_zero, List.set_cons_succ]
  refine up_take (by exact (atS at0)) (by kernel_rfl) (by exact fun _ _ _ h => h) (by rfl) (by intro W hW; go_simp; try with_reducible rfl) ?_
  simp only [Act.put, List.setIfInBounds_toArray, List.set_cons_zero, List.set_cons_succ]
  refine up_take (by exact (atS (atS at0))) (by kernel_rfl) (by exact fun _ _ _ h => h) (by rfl) (by intro W hW; have q := cell_up Z1.out hW (by exact NB.out); go_simp; try with_reducible rfl) ?_
  simp only [Act.put, List.setIfInBounds_toArray, List.set_cons_zero, List.set_cons_succ]
  refine up_take (by exact (atS (atS (atS (atS at0))))) (by kernel_rfl) (by exact fun _ _ _ h => h) (by rfl) (by intro W hW; go_simp; try with_reducible rfl) ?_
  simp only [Act.put, List.setIfInBounds_toArray, List.set_cons_zero, List.set_cons_succ]
  refine up_take (by exact (atS (atS (atS (atS (atS at0)))))) (by kernel_rfl) (by exact fun _ _ _ h => h) (by rfl) (by intro W hW; go_simp; try with_reducible rfl) ?_
  simp only [Act.put, List.setIfInBounds_toArray, List.set_cons_zero, List.set_cons_succ]
  refine up_take (by exact (atS (atS (atS (atS (atS (atS at0))))))) (by kernel_rfl) (by exact fun _ _ _ h => h) (by rfl) (by intro W hW; have q := cell_up Z1.out hW (by exact NB.out); go_simp; try with_reducible rfl) ?_
  simp only [Act.put, List.setIfInBounds_toArray, List.set_cons_zero, List.set_cons_succ]
  refine up_one (by exact (atS (atS (atS at0)))) (by kernel_rfl) (fun K hK => ?_)
  go_simp
  refine (async HPd.out.1 HWD.out o.a HLA.out).mono ?_
  intro eK wK hsK
  obtain ⟨rfl, hoK, hbK, dK, hPK, haK⟩ := HPd.out.stepK hsK
  clear hsK
  refine hK.out _ _ (hoK.kept fun k hk => .inl hk) ?_
  clear hK K
  have HPK := Lib.hid hPK
  have HAK := Lib.hid haK
  have HBK : Hid (Below lo w wK) := Lib.hid ((HBd.out).trans hbK)
  clear hPK haK hbK hoK
  refine up_one (by exact (atS (atS (atS (atS (atS (atS (atS at0)))))))) (by kernel_rfl) (fun K hK => ?_)
  go_simp
  have hR := rsync HPK.out.2.1 HWX.out HRX.out o.a
  rw [← HAB.out] at hR
  refine hR.mono ?_
  intro eR wR hsR
  obtain ⟨rfl, hoR, hbR, xR, hPR, haR⟩ := HPK.out.stepR hsR
  clear hsR
  refine hK.out _ _ (hoR.kept fun k hk => .inr (.inl hk.foot)) ?_
  clear hK K
  have HPR := Lib.hid hPR
  have HAR := Lib.hid haR
  have HBR : Hid (Below lo w wR) := Lib.hid ((HBK.out).trans hbR)
  clear hR hPR haR hbR hoR
  refine up_take (by exact (atS (atS (atS (atS (atS (atS (atS (atS at0))))))))) (by kernel_rfl) (by exact fun _ _ _ h => h) (by rfl) (by intro W hW; go_simp; try with_reducible rfl) ?_
  simp only [Act.put, List.setIfInBounds_toArray, List.set_cons_zero, List.set_cons_succ]
  refine up_take (by exact (atS (atS (atS (atS (atS (atS (atS (atS (atS at0)))))))))) (by kernel_rfl) (by exact fun _ _ _ h => h) (by rfl) (by intro W hW; go_simp; try with_reducible rfl) ?_
  simp only [Act.put, List.setIfInBounds_toArray, List.set_cons_zero, List.set_cons_succ]
  refine up_done (by kernel_rfl) ?_
  go_wp2_with fail
  go_ret
  exact ⟨rfl, HBR.out, _, _, HPR.out, HAK.out, HAR.out⟩
set_option maxHeartbeats 3200000 in
set_option maxRecDepth 100000 in
theorem rdo3 (hP : Pair w lo g b d gx x) (hab : absD d = absR x) (hw : WfA (absD d)) (hnm : NamesA (absD d)) {v : Value} {o : AOp} (ho : OpAt w lo v o) (hsa : o.a.length ≤ 1099511627776) (hsb : o.b.length ≤ 1099511627776) (hsd : o.data.length ≤ 1099511627776) (hk : o.kind = 3) :
    Calls Try.prog 13 #[.pointer (some ⟨g, 0, none⟩), .pointer (some ⟨gx, 0, none⟩), v] w (Done w lo g b gx (renameA (absD d) o.a o.b)) := by
  obtain ⟨Ad, cd, Ak, ck, rfl, hrd, hrk, hla, hlb⟩ := ho
  have HRD := Lib.hid hrd
  have HRK := Lib.hid hrk
  have hP1 : Pair (w.alloc (.cells #[.int .i64 o.kind, .string (str o.a), .string (str o.b), .int .i64 o.n, .slice Ad o.data.length cd, .slice Ak o.keep.length ck] 39)) lo g b d gx x := hP.below ((Below.refl _ _).alloc (Nat.le_refl _) _)
  have HP1 := Lib.hid hP1
  have hlo : lo ≤ w.heap.size := by have := hP.1.lt g (.inl rfl); omega
  have HB1 : Hid (Below lo w (w.alloc (.cells #[.int .i64 o.kind, .string (str o.a), .string (str o.b), .int .i64 o.n, .slice Ad o.data.length cd, .slice Ak o.keep.length ck] 39))) := Lib.hid ((Below.refl lo w).alloc hlo _)
  have BX : Hid (Blk (w.alloc (.cells #[.int .i64 o.kind, .string (str o.a), .string (str o.b), .int .i64 o.n, .slice Ad o.data.length cd, .slice Ak o.keep.length ck] 39)) w.heap.size 39 #[.int .i64 o.kind, .string (str o.a), .string (str o.b), .int .i64 o.n, .slice Ad o.data.length cd, .slice Ak o.keep.length ck]) := Lib.hid (Blk.fresh _ _ _)
  have HWD := Lib.hid hw
  have HWX : Hid (WfA (absR x)) := Lib.hid (by rw [← hab]; exact hw)
  have HRX : Hid (RiseA (absR x).L) := Lib.hid (by rw [← hab]; exact rise_of hP.1)
  have HAB := Lib.hid hab
  have HLA2 := Lib.hid hla
  have HLB2 := Lib.hid hlb
  have HLA := Lib.hid hsa
  have HLB := Lib.hid hsb
  have HLD := Lib.hid hsd
  have HNM := Lib.hid hnm
  have HNB : Hid (¬ Foot g b d.E w.heap.size ∧ ¬ RFoot gx x w.heap.size) := Lib.hid ⟨fun h => by have := (hP.1.lt _ h).2; omega, fun h => by have := (hP.2.1.lt _ h).2; omega⟩
  rw [hk] at HB1 BX HP1
  rw [hk]
  have x0 := BX.out.cell 0
  clear hP hP1 hab hw hnm hrd hrk hla hlb hsa hsb hsd hlo hk
  go_enter Try.func13, Try.ntmps13
  go_wp2_with fail
  have HPd : Hid (Pair (w.alloc (.cells #[.int .i64 3, .string (str o.a), .string (str o.b), .int .i64 o.n, .slice Ad o.data.length cd, .slice Ak o.keep.length ck] 39)).drew lo g b d gx x) := Lib.hid (HP1.out.below ⟨rfl, rfl, rfl, Nat.le_refl _, fun _ _ => rfl⟩)
  have HBd : Hid (Below lo w (w.alloc (.cells #[.int .i64 3, .string (str o.a), .string (str o.b), .int .i64 o.n, .slice Ad o.data.length cd, .slice Ak o.keep.length ck] 39)).drew) := Lib.hid (drew_b HB1.out)
  have NB : Hid (¬ (fun k => Foot g b d.E k ∨ RFoot gx x k ∨ w.heap.size + 1 ≤ k) w.heap.size) := Lib.hid (by rintro (h | h | h); exact HNB.out.1 h; exact HNB.out.2 h; omega)
  have Z1 : Hid ((w.alloc (.cells #[.int .i64 3, .string (str o.a), .string (str o.b), .int .i64 o.n, .slice Ad o.data.length cd, .slice Ak o.keep.length ck] 39)).drew.cell? ⟨w.heap.size, 1, none⟩ = some (.string (str o.a))) := Lib.hid (BX.out.cell 1)
  have Z2 : Hid ((w.alloc (.cells #[.int .i64 3, .string (str o.a), .string (str o.b), .int .i64 o.n, .slice Ad o.data.length cd, .slice Ak o.keep.length ck] 39)).drew.cell? ⟨w.heap.size, 2, none⟩ = some (.string (str o.b))) := Lib.hid (BX.out.cell 2)
  clear x0
  refine up_start (fun k => Foot g b d.E k ∨ RFoot gx x k ∨ w.heap.size + 1 ≤ k) (by kernel_rfl) ?_
  refine up_take (by exact at0) (by kernel_rfl) (by exact fun _ _ _ h => h) (by rfl) (by intro W hW; go_simp; try with_reducible rfl) ?_
  simp only [Act.put, List.setIfInBounds_toArray, List.set_cons_zero, List.set_cons_succ]
  refine up_take (by exact (atS at0)) (by kernel_rfl) (by exact fun _ _ _ h => h) (by rfl) (by intro W hW; go_simp; try with_reducible rfl) ?_
  simp only [Act.put, List.setIfInBounds_toArray, List.set_cons_zero, List.set_cons_succ]
  refine up_take (by exact (atS (atS at0))) (by kernel_rfl) (by exact fun _ _ _ h => h) (by rfl) (by intro W hW; have q := cell_up Z1.out hW (by exact NB.out); go_simp; try with_reducible rfl) ?_
  simp only [Act.put, List.setIfInBounds_toArray, List.set_cons_zero, List.set_cons_succ]
  refine up_take (by exact (atS (atS (atS at0)))) (by kernel_rfl) (by exact fun _ _ _ h => h) (by rfl) (by intro W hW; go_simp; try with_reducible rfl) ?_
  simp only [Act.put, List.setIfInBounds_toArray, List.set_cons_zero, List.set_cons_succ]
  refine up_take (by exact (atS (atS (atS (atS at0))))) (by kernel_rfl) (by exact fun _ _ _ h => h) (by rfl) (by intro W hW; have q := cell_up Z2.out hW (by exact NB.out); go_simp; try with_reducible rfl) ?_
  simp only [Act.put, List.setIfInBounds_toArray, List.set_cons_zero, List.set_cons_succ]
  refine up_take (by exact (atS (atS (atS (atS (atS (atS at0))))))) (by kernel_rfl) (by exact fun _ _ _ h => h) (by rfl) (by intro W hW; go_simp; try with_reducible rfl) ?_
  simp only [Act.put, List.setIfInBounds_toArray, List.set_cons_zero, List.set_cons_succ]
  refine up_take (by exact (atS (atS (atS (atS (atS (atS (atS at0)))))))) (by kernel_rfl) (by exact fun _ _ _ h => h) (by rfl) (by intro W hW; go_simp; try with_reducible rfl) ?_
  simp only [Act.put, List.setIfInBounds_toArray, List.set_cons_zero, List.set_cons_succ]
  refine up_take (by exact (atS (atS (atS (atS (atS (atS (atS (atS at0))))))))) (by kernel_rfl) (by exact fun _ _ _ h => h) (by rfl) (by intro W hW; have q := cell_up Z1.out hW (by exact NB.out); go_simp; try with_reducible rfl) ?_
  simp only [Act.put, List.setIfInBounds_toArray, List.set_cons_zero, List.set_cons_succ]
  refine up_take (by exact (atS (atS (atS (atS (atS (atS (atS (atS (atS at0)))))))))) (by kernel_rfl) (by exact fun _ _ _ h => h) (by rfl) (by intro W hW; go_simp; try with_reducible rfl) ?_
  simp only [Act.put, List.setIfInBounds_toArray, List.set_cons_zero, List.set_cons_succ]
  refine up_take (by exact (atS (atS (atS (atS (atS (atS (atS (atS (atS (atS at0))))))))))) (by kernel_rfl) (by exact fun _ _ _ h => h) (by rfl) (by intro W hW; have q := cell_up Z2.out hW (by exact NB.out); go_simp; try with_reducible rfl) ?_
  simp only [Act.put, List.setIfInBounds_toArray, List.set_cons_zero, List.set_cons_succ]
  refine up_one (by exact (atS (atS (atS (atS (atS at0)))))) (by kernel_rfl) (fun K hK => ?_)
  go_simp
  refine (arename HPd.out.1 HWD.out o.a o.b HLA.out HLB.out).mono ?_
  intro eK wK hsK
  obtain ⟨rfl, hoK, hbK, dK, hPK, haK⟩ := HPd.out.stepK hsK
  clear hsK
  refine hK.out _ _ (hoK.kept fun k hk => .inl hk) ?_
  clear hK K
  have HPK := Lib.hid hPK
  have HAK := Lib.hid haK
  have HBK : Hid (Below lo w wK) := Lib.hid ((HBd.out).trans hbK)
  clear hPK haK hbK hoK
  refine up_one (by exact (atS (atS (atS (atS (atS (atS (atS (atS (atS (atS (atS at0)))))))))))) (by kernel_rfl) (fun K hK => ?_)
  go_simp
  have hR := rrename HPK.out.2.1 HWX.out HRX.out o.a o.b HLB2.out
  rw [← HAB.out] at hR
  refine hR.mono ?_
  intro eR wR hsR
  obtain ⟨rfl, hoR, hbR, xR, hPR, haR⟩ := HPK.out.stepR hsR
  clear hsR
  refine hK.out _ _ (hoR.kept fun k hk => .inr (.inl hk.foot)) ?_
  clear hK K
  have HPR := Lib.hid hPR
  have HAR := Lib.hid haR
  have HBR : Hid (Below lo w wR) := Lib.hid ((HBK.out).trans hbR)
  clear hR hPR haR hbR hoR
  refine up_take (by exact (atS (atS (atS (atS (atS (atS (atS (atS (atS (atS (atS (atS at0))))))))))))) (by kernel_rfl) (by exact fun _ _ _ h => h) (by rfl) (by intro W hW; go_simp; try with_reducible rfl) ?_
  simp only [Act.put, List.setIfInBounds_toArray, List.set_cons_zero, List.set_cons_succ]
  refine up_take (by exact (atS (atS (atS (atS (atS (atS (atS (atS (atS (atS (atS (atS (atS at0)))))))))))))) (by kernel_rfl) (by exact fun _ _ _ h => h) (by rfl) (by intro W hW; go_simp; try with_reducible rfl) ?_
  simp only [Act.put, List.setIfInBounds_toArray, List.set_cons_zero, List.set_cons_succ]
  refine up_done (by kernel_rfl) ?_
  go_wp2_with fail
  go_ret
  exact ⟨rfl, HBR.out, _, _, HPR.out, HAK.out, HAR.out⟩
set_option maxHeartbeats 3200000 in
set_option maxRecDepth 100000 in
theorem rdo4 (hP : Pair w lo g b d gx x) (hab : absD d = absR x) (hw : WfA (absD d)) (hnm : NamesA (absD d)) {v : Value} {o : AOp} (ho : OpAt w lo v o) (hsa : o.a.length ≤ 1099511627776) (hsb : o.b.length ≤ 1099511627776) (hsd : o.data.length ≤ 1099511627776) (hk : o.kind = 4) :
    Calls Try.prog 13 #[.pointer (some ⟨g, 0, none⟩), .pointer (some ⟨gx, 0, none⟩), v] w (Done w lo g b gx (deleteA (absD d) o.a)) := by
  obtain ⟨Ad, cd, Ak, ck, rfl, hrd, hrk, hla, hlb⟩ := ho
  have HRD := Lib.hid hrd
  have HRK := Lib.hid hrk
  have hP1 : Pair (w.alloc (.cells #[.int .i64 o.kind, .string (str o.a), .string (str o.b), .int .i64 o.n, .slice Ad o.data.length cd, .slice Ak o.keep.length ck] 39)) lo g b d gx x := hP.below ((Below.refl _ _).alloc (Nat.le_refl _) _)
  have HP1 := Lib.hid hP1
  have hlo : lo ≤ w.heap.size := by have := hP.1.lt g (.inl rfl); omega
  have HB1 : Hid (Below lo w (w.alloc (.cells #[.int .i64 o.kind, .string (str o.a), .string (str o.b), .int .i64 o.n, .slice Ad o.data.length cd, .slice Ak o.keep.length ck] 39))) := Lib.hid ((Below.refl lo w).alloc hlo _)
  have BX : Hid (Blk (w.alloc (.cells #[.int .i64 o.kind, .string (str o.a), .string (str o.b), .int .i64 o.n, .slice Ad o.data.length cd, .slice Ak o.keep.length ck] 39)) w.heap.size 39 #[.int .i64 o.kind, .string (str o.a), .string (str o.b), .int .i64 o.n, .slice Ad o.data.length cd, .slice Ak o.keep.length ck]) := Lib.hid (Blk.fresh _ _ _)
  have HWD := Lib.hid hw
  have HWX : Hid (WfA (absR x)) := Lib.hid (by rw [← hab]; exact hw)
  have HRX : Hid (RiseA (absR x).L) := Lib.hid (by rw [← hab]; exact rise_of hP.1)
  have HAB := Lib.hid hab
  have HLA2 := Lib.hid hla
  have HLB2 := Lib.hid hlb
  have HLA := Lib.hid hsa
  have HLB := Lib.hid hsb
  have HLD := Lib.hid hsd
  have HNM := Lib.hid hnm
  have HNB : Hid (¬ Foot g b d.E w.heap.size ∧ ¬ RFoot gx x w.heap.size) := Lib.hid ⟨fun h => by have := (hP.1.lt _ h).2; omega, fun h => by have := (hP.2.1.lt _ h).2; omega⟩
  rw [hk] at HB1 BX HP1
  rw [hk]
  have x0 := BX.out.cell 0
  clear hP hP1 hab hw hnm hrd hrk hla hlb hsa hsb hsd hlo hk
  go_enter Try.func13, Try.ntmps13
  go_wp2_with fail
  have HPd : Hid (Pair (w.alloc (.cells #[.int .i64 4, .string (str o.a), .string (str o.b), .int .i64 o.n, .slice Ad o.data.length cd, .slice Ak o.keep.length ck] 39)).drew lo g b d gx x) := Lib.hid (HP1.out.below ⟨rfl, rfl, rfl, Nat.le_refl _, fun _ _ => rfl⟩)
  have HBd : Hid (Below lo w (w.alloc (.cells #[.int .i64 4, .string (str o.a), .string (str o.b), .int .i64 o.n, .slice Ad o.data.length cd, .slice Ak o.keep.length ck] 39)).drew) := Lib.hid (drew_b HB1.out)
  have NB : Hid (¬ (fun k => Foot g b d.E k ∨ RFoot gx x k ∨ w.heap.size + 1 ≤ k) w.heap.size) := Lib.hid (by rintro (h | h | h); exact HNB.out.1 h; exact HNB.out.2 h; omega)
  have Z1 : Hid ((w.alloc (.cells #[.int .i64 4, .string (str o.a), .string (str o.b), .int .i64 o.n, .slice Ad o.data.length cd, .slice Ak o.keep.length ck] 39)).drew.cell? ⟨w.heap.size, 1, none⟩ = some (.string (str o.a))) := Lib.hid (BX.out.cell 1)
  clear x0
  refine up_start (fun k => Foot g b d.E k ∨ RFoot gx x k ∨ w.heap.size + 1 ≤ k) (by kernel_rfl) ?_
  refine up_take (by exact at0) (by kernel_rfl) (by exact fun _ _ _ h => h) (by rfl) (by intro W hW; go_simp; try with_reducible rfl) ?_
  simp only [Act.put, List.setIfInBounds_toArray, List.set_cons_zero, List.set_cons_succ]
  refine up_take (by exact (atS at0)) (by kernel_rfl) (by exact fun _ _ _ h => h) (by rfl) (by intro W hW; go_simp; try with_reducible rfl) ?_
  simp only [Act.put, List.setIfInBounds_toArray, List.set_cons_zero, List.set_cons_succ]
  refine up_take (by exact (atS (atS at0))) (by kernel_rfl) (by exact fun _ _ _ h => h) (by rfl) (by intro W hW; have q := cell_up Z1.out hW (by exact NB.out); go_simp; try with_reducible rfl) ?_
  simp only [Act.put, List.setIfInBounds_toArray, List.set_cons_zero, List.set_cons_succ]
  refine up_take (by exact (atS (atS (atS (atS at0))))) (by kernel_rfl) (by exact fun _ _ _ h => h) (by rfl) (by intro W hW; go_simp; try with_reducible rfl) ?_
  simp only [Act.put, List.setIfInBounds_toArray, List.set_cons_zero, List.set_cons_succ]
  refine up_take (by exact (atS (atS (atS (atS (atS at0)))))) (by kernel_rfl) (by exact fun _ _ _ h => h) (by rfl) (by intro W hW; go_simp; try with_reducible rfl) ?_
  simp only [Act.put, List.setIfInBounds_toArray, List.set_cons_zero, List.set_cons_succ]
  refine up_take (by exact (atS (atS (atS (atS (atS (atS at0))))))) (by kernel_rfl) (by exact fun _ _ _ h => h) (by rfl) (by intro W hW; have q := cell_up Z1.out hW (by exact NB.out); go_simp; try with_reducible rfl) ?_
  simp only [Act.put, List.setIfInBounds_toArray, List.set_cons_zero, List.set_cons_succ]
  refine up_one (by exact (atS (atS (atS at0)))) (by kernel_rfl) (fun K hK => ?_)
  go_simp
  refine (adelete HPd.out.1 HWD.out o.a HLA.out).mono ?_
  intro eK wK hsK
  obtain ⟨rfl, hoK, hbK, dK, hPK, haK⟩ := HPd.out.stepK hsK
  clear hsK
  refine hK.out _ _ (hoK.kept fun k hk => .inl hk) ?_
  clear hK K
  have HPK := Lib.hid hPK
  have HAK := Lib.hid haK
  have HBK : Hid (Below lo w wK) := Lib.hid ((HBd.out).trans hbK)
  clear hPK haK hbK hoK
  refine up_one (by exact (atS (atS (atS (atS (atS (atS (atS at0)))))))) (by kernel_rfl) (fun K hK => ?_)
  go_simp
  have hR := rdelete HPK.out.2.1 HWX.out HRX.out o.a
  rw [← HAB.out] at hR
  refine hR.mono ?_
  intro eR wR hsR
  obtain ⟨rfl, hoR, hbR, xR, hPR, haR⟩ := HPK.out.stepR hsR
  clear hsR
  refine hK.out _ _ (hoR.kept fun k hk => .inr (.inl hk.foot)) ?_
  clear hK K
  have HPR := Lib.hid hPR
  have HAR := Lib.hid haR
  have HBR : Hid (Below lo w wR) := Lib.hid ((HBK.out).trans hbR)
  clear hR hPR haR hbR hoR
  refine up_take (by exact (atS (atS (atS (atS (atS (atS (atS (atS at0))))))))) (by kernel_rfl) (by exact fun _ _ _ h => h) (by rfl) (by intro W hW; go_simp; try with_reducible rfl) ?_
  simp only [Act.put, List.setIfInBounds_toArray, List.set_cons_zero, List.set_cons_succ]
  refine up_take (by exact (atS (atS (atS (atS (atS (atS (atS (atS (atS at0)))))))))) (by kernel_rfl) (by exact fun _ _ _ h => h) (by rfl) (by intro W hW; go_simp; try with_reducible rfl) ?_
  simp only [Act.put, List.setIfInBounds_toArray, List.set_cons_zero, List.set_cons_succ]
  refine up_done (by kernel_rfl) ?_
  go_wp2_with fail
  go_ret
  exact ⟨rfl, HBR.out, _, _, HPR.out, HAK.out, HAR.out⟩
set_option maxHeartbeats 3200000 in
set_option maxRecDepth 100000 in
theorem rdo6 (hP : Pair w lo g b d gx x) (hab : absD d = absR x) (hw : WfA (absD d)) (hnm : NamesA (absD d)) {v : Value} {o : AOp} (ho : OpAt w lo v o) (hsa : o.a.length ≤ 1099511627776) (hsb : o.b.length ≤ 1099511627776) (hsd : o.data.length ≤ 1099511627776) (hk : o.kind = 6) :
    Calls Try.prog 13 #[.pointer (some ⟨g, 0, none⟩), .pointer (some ⟨gx, 0, none⟩), v] w (Done w lo g b gx (stopA (absD d) o.n)) := by
  obtain ⟨Ad, cd, Ak, ck, rfl, hrd, hrk, hla, hlb⟩ := ho
  have HRD := Lib.hid hrd
  have HRK := Lib.hid hrk
  have hP1 : Pair (w.alloc (.cells #[.int .i64 o.kind, .string (str o.a), .string (str o.b), .int .i64 o.n, .slice Ad o.data.length cd, .slice Ak o.keep.length ck] 39)) lo g b d gx x := hP.below ((Below.refl _ _).alloc (Nat.le_refl _) _)
  have HP1 := Lib.hid hP1
  have hlo : lo ≤ w.heap.size := by have := hP.1.lt g (.inl rfl); omega
  have HB1 : Hid (Below lo w (w.alloc (.cells #[.int .i64 o.kind, .string (str o.a), .string (str o.b), .int .i64 o.n, .slice Ad o.data.length cd, .slice Ak o.keep.length ck] 39))) := Lib.hid ((Below.refl lo w).alloc hlo _)
  have BX : Hid (Blk (w.alloc (.cells #[.int .i64 o.kind, .string (str o.a), .string (str o.b), .int .i64 o.n, .slice Ad o.data.length cd, .slice Ak o.keep.length ck] 39)) w.heap.size 39 #[.int .i64 o.kind, .string (str o.a), .string (str o.b), .int .i64 o.n, .slice Ad o.data.length cd, .slice Ak o.keep.length ck]) := Lib.hid (Blk.fresh _ _ _)
  have HWD := Lib.hid hw
  have HWX : Hid (WfA (absR x)) := Lib.hid (by rw [← hab]; exact hw)
  have HRX : Hid (RiseA (absR x).L) := Lib.hid (by rw [← hab]; exact rise_of hP.1)
  have HAB := Lib.hid hab
  have HLA2 := Lib.hid hla
  have HLB2 := Lib.hid hlb
  have HLA := Lib.hid hsa
  have HLB := Lib.hid hsb
  have HLD := Lib.hid hsd
  have HNM := Lib.hid hnm
  have HNB : Hid (¬ Foot g b d.E w.heap.size ∧ ¬ RFoot gx x w.heap.size) := Lib.hid ⟨fun h => by have := (hP.1.lt _ h).2; omega, fun h => by have := (hP.2.1.lt _ h).2; omega⟩
  rw [hk] at HB1 BX HP1
  rw [hk]
  have x0 := BX.out.cell 0
  clear hP hP1 hab hw hnm hrd hrk hla hlb hsa hsb hsd hlo hk
  go_enter Try.func13, Try.ntmps13
  go_wp2_with fail
  have HPd : Hid (Pair (w.alloc (.cells #[.int .i64 6, .string (str o.a), .string (str o.b), .int .i64 o.n, .slice Ad o.data.length cd, .slice Ak o.keep.length ck] 39)).drew lo g b d gx x) := Lib.hid (HP1.out.below ⟨rfl, rfl, rfl, Nat.le_refl _, fun _ _ => rfl⟩)
  have HBd : Hid (Below lo w (w.alloc (.cells #[.int .i64 6, .string (str o.a), .string (str o.b), .int .i64 o.n, .slice Ad o.data.length cd, .slice Ak o.keep.length ck] 39)).drew) := Lib.hid (drew_b HB1.out)
  have NB : Hid (¬ (fun k => Foot g b d.E k ∨ RFoot gx x k ∨ w.heap.size + 1 ≤ k) w.heap.size) := Lib.hid (by rintro (h | h | h); exact HNB.out.1 h; exact HNB.out.2 h; omega)
  have Z3 : Hid ((w.alloc (.cells #[.int .i64 6, .string (str o.a), .string (str o.b), .int .i64 o.n, .slice Ad o.data.length cd, .slice Ak o.keep.length ck] 39)).drew.cell? ⟨w.heap.size, 3, none⟩ = some (.int .i64 o.n)) := Lib.hid (BX.out.cell 3)
  clear x0
  refine up_start (fun k => Foot g b d.E k ∨ RFoot gx x k ∨ w.heap.size + 1 ≤ k) (by kernel_rfl) ?_
  refine up_take (by exact at0) (by kernel_rfl) (by exact fun _ _ _ h => h) (by rfl) (by intro W hW; go_simp; try with_reducible rfl) ?_
  simp only [Act.put, List.setIfInBounds_toArray, List.set_cons_zero, List.set_cons_succ]
  refine up_take (by exact (atS at0)) (by kernel_rfl) (by exact fun _ _ _ h => h) (by rfl) (by intro W hW; go_simp; try with_reducible rfl) ?_
  simp only [Act.put, List.setIfInBounds_toArray, List.set_cons_zero, List.set_cons_succ]
  refine up_take (by exact (atS (atS at0))) (by kernel_rfl) (by exact fun _ _ _ h => h) (by rfl) (by intro W hW; have q := cell_up Z3.out hW (by exact NB.out); go_simp; try with_reducible rfl) ?_
  simp only [Act.put, List.setIfInBounds_toArray, List.set_cons_zero, List.set_cons_succ]
  refine up_take (by exact (atS (atS (atS (atS at0))))) (by kernel_rfl) (by exact fun _ _ _ h => h) (by rfl) (by intro W hW; go_simp; try with_reducible rfl) ?_
  simp only [Act.put, List.setIfInBounds_toArray, List.set_cons_zero, List.set_cons_succ]
  refine up_take (by exact (atS (atS (atS (atS (atS at0)))))) (by kernel_rfl) (by exact fun _ _ _ h => h) (by rfl) (by intro W hW; go_simp; try with_reducible rfl) ?_
  simp only [Act.put, List.setIfInBounds_toArray, List.set_cons_zero, List.set_cons_succ]
  refine up_take (by exact (atS (atS (atS (atS (atS (atS at0))))))) (by kernel_rfl) (by exact fun _ _ _ h => h) (by rfl) (by intro W hW; have q := cell_up Z3.out hW (by exact NB.out); go_simp; try with_reducible rfl) ?_
  simp only [Act.put, List.setIfInBounds_toArray, List.set_cons_zero, List.set_cons_succ]
  refine up_one (by exact (atS (atS (atS at0)))) (by kernel_rfl) (fun K hK => ?_)
  go_simp
  refine (astop HPd.out.1 o.n).mono ?_
  intro eK wK hsK
  obtain ⟨rfl, hoK, hbK, dK, hPK, haK⟩ := HPd.out.stepK hsK
  clear hsK
  refine hK.out _ _ (hoK.kept fun k hk => .inl hk) ?_
  clear hK K
  have HPK := Lib.hid hPK
  have HAK := Lib.hid haK
  have HBK : Hid (Below lo w wK) := Lib.hid ((HBd.out).trans hbK)
  clear hPK haK hbK hoK
  refine up_one (by exact (atS (atS (atS (atS (atS (atS (atS at0)))))))) (by kernel_rfl) (fun K hK => ?_)
  go_simp
  have hR := rstop HPK.out.2.1 o.n
  rw [← HAB.out] at hR
  refine hR.mono ?_
  intro eR wR hsR
  obtain ⟨rfl, hoR, hbR, xR, hPR, haR⟩ := HPK.out.stepR hsR
  clear hsR
  refine hK.out _ _ (hoR.kept fun k hk => .inr (.inl hk.foot)) ?_
  clear hK K
  have HPR := Lib.hid hPR
  have HAR := Lib.hid haR
  have HBR : Hid (Below lo w wR) := Lib.hid ((HBK.out).trans hbR)
  clear hR hPR haR hbR hoR
  refine up_take (by exact (atS (atS (atS (atS (atS (atS (atS (atS at0))))))))) (by kernel_rfl) (by exact fun _ _ _ h => h) (by rfl) (by intro W hW; go_simp; try with_reducible rfl) ?_
  simp only [Act.put, List.setIfInBounds_toArray, List.set_cons_zero, List.set_cons_succ]
  refine up_take (by exact (atS (atS (atS (atS (atS (atS (atS (atS (atS at0)))))))))) (by kernel_rfl) (by exact fun _ _ _ h => h) (by rfl) (by intro W hW; go_simp; try with_reducible rfl) ?_
  simp only [Act.put, List.setIfInBounds_toArray, List.set_cons_zero, List.set_cons_succ]
  refine up_done (by kernel_rfl) ?_
  go_wp2_with fail
  go_ret
  exact ⟨rfl, HBR.out, _, _, HPR.out, HAK.out, HAR.out⟩
set_option maxHeartbeats 3200000 in
set_option maxRecDepth 100000 in
theorem rdo5 (hP : Pair w lo g b d gx x) (hab : absD d = absR x) (hw : WfA (absD d)) (hnm : NamesA (absD d)) {v : Value} {o : AOp} (ho : OpAt w lo v o) (hsa : o.a.length ≤ 1099511627776) (hsb : o.b.length ≤ 1099511627776) (hsd : o.data.length ≤ 1099511627776) (hk : o.kind = 5) :
    Calls Try.prog 13 #[.pointer (some ⟨g, 0, none⟩), .pointer (some ⟨gx, 0, none⟩), v] w (Done w lo g b gx (absD d)) := by
  obtain ⟨Ad, cd, Ak, ck, rfl, hrd, hrk, hla, hlb⟩ := ho
  have HRD := Lib.hid hrd
  have HRK := Lib.hid hrk
  have hP1 : Pair (w.alloc (.cells #[.int .i64 o.kind, .string (str o.a), .string (str o.b), .int .i64 o.n, .slice Ad o.data.length cd, .slice Ak o.keep.length ck] 39)) lo g b d gx x := hP.below ((Below.refl _ _).alloc (Nat.le_refl _) _)
  have HP1 := Lib.hid hP1
  have hlo : lo ≤ w.heap.size := by have := hP.1.lt g (.inl rfl); omega
  have HB1 : Hid (Below lo w (w.alloc (.cells #[.int .i64 o.kind, .string (str o.a), .string (str o.b), .int .i64 o.n, .slice Ad o.data.length cd, .slice Ak o.keep.length ck] 39))) := Lib.hid ((Below.refl lo w).alloc hlo _)
  have BX : Hid (Blk (w.alloc (.cells #[.int .i64 o.kind, .string (str o.a), .string (str o.b), .int .i64 o.n, .slice Ad o.data.length cd, .slice Ak o.keep.length ck] 39)) w.heap.size 39 #[.int .i64 o.kind, .string (str o.a), .string (str o.b), .int .i64 o.n, .slice Ad o.data.length cd, .slice Ak o.keep.length ck]) := Lib.hid (Blk.fresh _ _ _)
  have HWD := Lib.hid hw
  have HWX : Hid (WfA (absR x)) := Lib.hid (by rw [← hab]; exact hw)
  have HRX : Hid (RiseA (absR x).L) := Lib.hid (by rw [← hab]; exact rise_of hP.1)
  have HAB := Lib.hid hab
  have HLA2 := Lib.hid hla
  have HLB2 := Lib.hid hlb
  have HLA := Lib.hid hsa
  have HLB := Lib.hid hsb
  have HLD := Lib.hid hsd
  have HNM := Lib.hid hnm
  have HNB : Hid (¬ Foot g b d.E w.heap.size ∧ ¬ RFoot gx x w.heap.size) := Lib.hid ⟨fun h => by have := (hP.1.lt _ h).2; omega, fun h => by have := (hP.2.1.lt _ h).2; omega⟩
  rw [hk] at HB1 BX HP1
  rw [hk]
  have x0 : (w.alloc (.cells #[.int .i64 5, .string (str o.a), .string (str o.b), .int .i64 o.n, .slice Ad o.data.length cd, .slice Ak o.keep.length ck] 39)).cell? ⟨w.heap.size, 0, none⟩ = some (.int .i64 5) := BX.out.cell 0
  have x1 : (w.alloc (.cells #[.int .i64 5, .string (str o.a), .string (str o.b), .int .i64 o.n, .slice Ad o.data.length cd, .slice Ak o.keep.length ck] 39)).cell? ⟨w.heap.size, 1, none⟩ = some (.string (str o.a)) := BX.out.cell 1
  obtain ⟨l5, c5, hr5⟩ : ∃ l5 c5, readA (absD d) o.a = (l5, c5) := ⟨_, _, rfl⟩
  have HR5 := Lib.hid hr5
  clear hP hP1 hab hw hnm hrd hrk hla hlb hsa hsb hsd hlo hk
  clear hr5
  go_enter Try.func13, Try.ntmps13
  go_wp2_with (first
    | (go_at_call 30; go_must (have kr := yread HP1.out.1 rfl HWD.out o.a HLA.out); go_must (rw [HR5.out] at kr); go_must (refine kr.mono ?_); go_must (rintro e w2 ⟨v2, rfl, hown2, hb2⟩); go_must (have HP2 := Lib.hid (HP1.out.below hb2)); go_must (have x1b : w2.cell? ⟨w.heap.size, 1, none⟩ = some (.string (str o.a)) := (BX.out.below hb2 BX.out.lt).cell 1); have HP2 := Lib.hid (HP1.out.below hb2); have O2 := Lib.hid hown2; have HB2 := Lib.hid hb2; have x1b : w2.cell? ⟨w.heap.size, 1, none⟩ = some (.string (str o.a)) := (BX.out.below hb2 BX.out.lt).cell 1; clear kr hown2 hb2 x0 x1)
    | (go_at_call 39; have kr := rread HP2.out.2.1 HWX.out HRX.out o.a; rw [← HAB.out, HR5.out] at kr; refine kr.mono ?_; rintro e w3 ⟨v3, rfl, hown3, hb3⟩; have HP3 := Lib.hid (HP2.out.below hb3); have q2 := conv_at (w := w3) (v := v2) ((O2.out.below hb3).rd (Nat.le_refl _)); have q3 := conv_at (w := w3) (v := v3) (hown3.rd (Nat.le_refl _)); have HB3 := Lib.hid hb3; clear kr hown3 hb3 x1b))
  go_ret
  have hs : lo ≤ (w.alloc (.cells #[.int .i64 5, .string (str o.a), .string (str o.b), .int .i64 o.n, .slice Ad o.data.length cd, .slice Ak o.keep.length ck] 39)).heap.size := by have := HP1.out.1.lt g (.inl rfl); omega
  have hb12 : Below lo (w.alloc (.cells #[.int .i64 5, .string (str o.a), .string (str o.b), .int .i64 o.n, .slice Ad o.data.length cd, .slice Ak o.keep.length ck] 39)) w3 := (HB2.out.mono hs).trans (HB3.out.mono (Nat.le_trans hs HB2.out.size))
  exact ⟨rfl, HB1.out.trans hb12, d, x, HP3.out, rfl, HAB.out.symm⟩
set_option maxHeartbeats 3200000 in
set_option maxRecDepth 100000 in
theorem rdo7 (hP : Pair w lo g b d gx x) (hab : absD d = absR x) (hw : WfA (absD d)) (hnm : NamesA (absD d)) {v : Value} {o : AOp} (ho : OpAt w lo v o) (hsa : o.a.length ≤ 1099511627776) (hsb : o.b.length ≤ 1099511627776) (hsd : o.data.length ≤ 1099511627776) (hk : o.kind = 7) :
    Calls Try.prog 13 #[.pointer (some ⟨g, 0, none⟩), .pointer (some ⟨gx, 0, none⟩), v] w (Done w lo g b gx (crashA (absD d) o.keep)) := by
  obtain ⟨Ad, cd, Ak, ck, rfl, hrd, hrk, hla, hlb⟩ := ho
  have HRD := Lib.hid hrd
  have HRK := Lib.hid hrk
  have hP1 : Pair (w.alloc (.cells #[.int .i64 o.kind, .string (str o.a), .string (str o.b), .int .i64 o.n, .slice Ad o.data.length cd, .slice Ak o.keep.length ck] 39)) lo g b d gx x := hP.below ((Below.refl _ _).alloc (Nat.le_refl _) _)
  have HP1 := Lib.hid hP1
  have hlo : lo ≤ w.heap.size := by have := hP.1.lt g (.inl rfl); omega
  have HB1 : Hid (Below lo w (w.alloc (.cells #[.int .i64 o.kind, .string (str o.a), .string (str o.b), .int .i64 o.n, .slice Ad o.data.length cd, .slice Ak o.keep.length ck] 39))) := Lib.hid ((Below.refl lo w).alloc hlo _)
  have BX : Hid (Blk (w.alloc (.cells #[.int .i64 o.kind, .string (str o.a), .string (str o.b), .int .i64 o.n, .slice Ad o.data.length cd, .slice Ak o.keep.length ck] 39)) w.heap.size 39 #[.int .i64 o.kind, .string (str o.a), .string (str o.b), .int .i64 o.n, .slice Ad o.data.length cd, .slice Ak o.keep.length ck]) := Lib.hid (Blk.fresh _ _ _)
  have HWD := Lib.hid hw
  have HWX : Hid (WfA (absR x)) := Lib.hid (by rw [← hab]; exact hw)
  have HRX : Hid (RiseA (absR x).L) := Lib.hid (by rw [← hab]; exact rise_of hP.1)
  have HAB := Lib.hid hab
  have HLA2 := Lib.hid hla
  have HLB2 := Lib.hid hlb
  have HLA := Lib.hid hsa
  have HLB := Lib.hid hsb
  have HLD := Lib.hid hsd
  have HNM := Lib.hid hnm
  have HNB : Hid (¬ Foot g b d.E w.heap.size ∧ ¬ RFoot gx x w.heap.size) := Lib.hid ⟨fun h => by have := (hP.1.lt _ h).2; omega, fun h => by have := (hP.2.1.lt _ h).2; omega⟩
  rw [hk] at HB1 BX HP1
  rw [hk]
  have x0 : (w.alloc (.cells #[.int .i64 7, .string (str o.a), .string (str o.b), .int .i64 o.n, .slice Ad o.data.length cd, .slice Ak o.keep.length ck] 39)).cell? ⟨w.heap.size, 0, none⟩ = some (.int .i64 7) := BX.out.cell 0
  have x5 : (w.alloc (.cells #[.int .i64 7, .string (str o.a), .string (str o.b), .int .i64 o.n, .slice Ad o.data.length cd, .slice Ak o.keep.length ck] 39)).cell? ⟨w.heap.size, 5, none⟩ = some (.slice Ak o.keep.length ck) := BX.out.cell 5
  clear hP hP1 hab hw hnm hrd hrk hla hlb hsa hsb hsd hlo hk
  go_enter Try.func13, Try.ntmps13
  go_wp2_with (first
    | (go_at_call 29; go_must (refine (ycrash HP1.out.1 rfl HWD.out HNM.out _ o.keep rfl (HRK.out.up HB1.out (foot_lo HP1.out.1))).mono ?_); intro e w2 hs2; obtain ⟨rfl, ho2, hb2, d2, hp2, ha2⟩ := HP1.out.stepK hs2; have HP2 := Lib.hid hp2; have HA2 := Lib.hid ha2; have HB2 := Lib.hid (HB1.out.trans hb2); have hbx2 : Blk w2 w.heap.size 39 #[.int .i64 7, .string (str o.a), .string (str o.b), .int .i64 o.n, .slice Ad o.data.length cd, .slice Ak o.keep.length ck] := (ho2.2.2.2.2 _ BX.out.lt HNB.out.1).trans BX.out; have x5b : w2.cell? ⟨w.heap.size, 5, none⟩ = some (.slice Ak o.keep.length ck) := hbx2.cell 5; clear hbx2; clear hs2 ho2 hb2 hp2 ha2 x0 x5)
    | (go_at_call 41; have kr := rcrash HP2.out.2.1 HWX.out _ o.keep (HRK.out.up HB2.out (rfoot_lo HP2.out.2.1)); rw [← HAB.out] at kr; refine kr.mono ?_; intro e w3 hs3; obtain ⟨rfl, ho3, hb3, x3, hp3, ha3⟩ := HP2.out.stepR hs3; have HP3 := Lib.hid hp3; have HA3 := Lib.hid ha3; have HB3 := Lib.hid (HB2.out.trans hb3); clear hs3 ho3 hb3 hp3 ha3 kr x5b))
  go_ret
  exact ⟨rfl, HB3.out, _, _, HP3.out, HA2.out, HA3.out⟩
set_option maxHeartbeats 3200000 in
set_option maxRecDepth 100000 in
theorem rdo0 (hP : Pair w lo g b d gx x) (hab : absD d = absR x) (hw : WfA (absD d)) (hnm : NamesA (absD d)) {v : Value} {o : AOp} (ho : OpAt w lo v o) (hsa : o.a.length ≤ 1099511627776) (hsb : o.b.length ≤ 1099511627776) (hsd : o.data.length ≤ 1099511627776) (h1 : o.kind ≠ 1) (h2 : o.kind ≠ 2) (h3 : o.kind ≠ 3) (h4 : o.kind ≠ 4) (h5 : o.kind ≠ 5) (h6 : o.kind ≠ 6) (h7 : o.kind ≠ 7) :
    Calls Try.prog 13 #[.pointer (some ⟨g, 0, none⟩), .pointer (some ⟨gx, 0, none⟩), v] w (Done w lo g b gx (absD d)) := by
  obtain ⟨Ad, cd, Ak, ck, rfl, hrd, hrk, hla, hlb⟩ := ho
  have HRD := Lib.hid hrd
  have HRK := Lib.hid hrk
  have hP1 : Pair (w.alloc (.cells #[.int .i64 o.kind, .string (str o.a), .string (str o.b), .int .i64 o.n, .slice Ad o.data.length cd, .slice Ak o.keep.length ck] 39)) lo g b d gx x := hP.below ((Below.refl _ _).alloc (Nat.le_refl _) _)
  have HP1 := Lib.hid hP1
  have hlo : lo ≤ w.heap.size := by have := hP.1.lt g (.inl rfl); omega
  have HB1 : Hid (Below lo w (w.alloc (.cells #[.int .i64 o.kind, .string (str o.a), .string (str o.b), .int .i64 o.n, .slice Ad o.data.length cd, .slice Ak o.keep.length ck] 39))) := Lib.hid ((Below.refl lo w).alloc hlo _)
  have BX : Hid (Blk (w.alloc (.cells #[.int .i64 o.kind, .string (str o.a), .string (str o.b), .int .i64 o.n, .slice Ad o.data.length cd, .slice Ak o.keep.length ck] 39)) w.heap.size 39 #[.int .i64 o.kind, .string (str o.a), .string (str o.b), .int .i64 o.n, .slice Ad o.data.length cd, .slice Ak o.keep.length ck]) := Lib.hid (Blk.fresh _ _ _)
  have HWD := Lib.hid hw
  have HWX : Hid (WfA (absR x)) := Lib.hid (by rw [← hab]; exact hw)
  have HRX : Hid (RiseA (absR x).L) := Lib.hid (by rw [← hab]; exact rise_of hP.1)
  have HAB := Lib.hid hab
  have HLA2 := Lib.hid hla
  have HLB2 := Lib.hid hlb
  have HLA := Lib.hid hsa
  have HLB := Lib.hid hsb
  have HLD := Lib.hid hsd
  have HNM := Lib.hid hnm
  have HNB : Hid (¬ Foot g b d.E w.heap.size ∧ ¬ RFoot gx x w.heap.size) := Lib.hid ⟨fun h => by have := (hP.1.lt _ h).2; omega, fun h => by have := (hP.2.1.lt _ h).2; omega⟩
  have x0 : (w.alloc (.cells #[.int .i64 o.kind, .string (str o.a), .string (str o.b), .int .i64 o.n, .slice Ad o.data.length cd, .slice Ak o.keep.length ck] 39)).cell? ⟨w.heap.size, 0, none⟩ = some (.int .i64 o.kind) := BX.out.cell 0
  have d1 : (o.kind == 1) = false := by simpa using h1
  have d2 : (o.kind == 2) = false := by simpa using h2
  have d3 : (o.kind == 3) = false := by simpa using h3
  have d4 : (o.kind == 4) = false := by simpa using h4
  have d5 : (o.kind == 5) = false := by simpa using h5
  have d6 : (o.kind == 6) = false := by simpa using h6
  have d7 : (o.kind == 7) = false := by simpa using h7
  clear hP hP1 hab hw hnm hrd hrk hla hlb hsa hsb hsd hlo h1 h2 h3 h4 h5 h6 h7
  go_enter Try.func13, Try.ntmps13
  go_wp2_with fail
  go_ret
  exact ⟨rfl, HB1.out, d, x, HP1.out, rfl, HAB.out.symm⟩
/-- One call of both. -/
theorem rdo (hP : Pair w lo g b d gx x) (hab : absD d = absR x) (hw : WfA (absD d)) (hnm : NamesA (absD d)) {v : Value} {o : AOp} (ho : OpAt w lo v o) (hsa : o.a.length ≤ 1099511627776) (hsb : o.b.length ≤ 1099511627776) (hsd : o.data.length ≤ 1099511627776) : Calls Try.prog 13 #[.pointer (some ⟨g, 0, none⟩), .pointer (some ⟨gx, 0, none⟩), v] w (Done w lo g b gx (doA (absD d) o)) := by
  unfold doA
  by_cases h1 : o.kind = 1
  · rw [if_pos h1]; exact rdo1 hP hab hw hnm ho hsa hsb hsd h1
  rw [if_neg h1]
  by_cases h2 : o.kind = 2
  · rw [if_pos h2]; exact rdo2 hP hab hw hnm ho hsa hsb hsd h2
  rw [if_neg h2]
  by_cases h3 : o.kind = 3
  · rw [if_pos h3]; exact rdo3 hP hab hw hnm ho hsa hsb hsd h3
  rw [if_neg h3]
  by_cases h4 : o.kind = 4
  · rw [if_pos h4]; exact rdo4 hP hab hw hnm ho hsa hsb hsd h4
  rw [if_neg h4]
  by_cases h6 : o.kind = 6
  · rw [if_pos h6]; exact rdo6 hP hab hw hnm ho hsa hsb hsd h6
  rw [if_neg h6]
  by_cases h7 : o.kind = 7
  · rw [if_pos h7]; exact rdo7 hP hab hw hnm ho hsa hsb hsd h7
  rw [if_neg h7]
  by_cases h5 : o.kind = 5
  · exact rdo5 hP hab hw hnm ho hsa hsb hsd h5
  exact rdo0 hP hab hw hnm ho hsa hsb hsd h1 h2 h3 h4 h5 h6 h7
end
end Go.Proofs.Ytincdegoiknfhab
