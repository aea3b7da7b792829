/-
  DiskSafe's call: it answers true. Conditions: the slices read as bytes; the number is an int.
-/
import Derived.Test.YthnepbdkbiieiabKLives
namespace Go.Proofs.Ythnepbdkbiieiab
open Go.RowKit

/-! ### in plain words -/
def SA0 : ADisk := ⟨1048576, 0, -1, false, []⟩
def SA1 (la : List UInt8) : ADisk := ⟨1048576, 1, -1, false, [⟨[102], la, 0⟩]⟩
def SA2 (la : List UInt8) : ADisk := ⟨1048576, 2, -1, false, [⟨[102], la, la.length⟩]⟩
def SA3 (la lb : List UInt8) : ADisk := ⟨1048576, 3, -1, false, [⟨[102], la ++ lb, la.length⟩]⟩
def clampN (keep : Int) (m : Nat) : Nat := (max 0 (min keep (m : Int))).toNat
def SA4 (la lb : List UInt8) (n : Nat) : ADisk := ⟨1048576, 3, -1, false, [⟨[102], la ++ lb.take n, la.length + n⟩]⟩
theorem nameF : nameB [102] = true := by kernel_rfl
theorem sa1 (la : List UInt8) (h : la.length ≤ 1000) : appendA SA0 [102] la = SA1 la ∧ appendAV SA0 [102] la = 0 := by
  have hf : fullA SA0 [102] la = false := by
    unfold fullA SA0
    simp only [atA, List.find?_nil, List.length_nil, usedA, List.map_nil, List.sum_nil]
    rw [decide_eq_false (by omega), decide_eq_false (by omega)]
    rfl
  unfold appendA appendAV
  rw [hf, nameF]
  exact ⟨rfl, rfl⟩
theorem sa2 (la : List UInt8) : syncA (SA1 la) [102] = SA2 la ∧ syncAV (SA1 la) [102] = 0 := ⟨rfl, rfl⟩
theorem sa3 (la lb : List UInt8) (h : la.length ≤ 1000) (h2 : lb.length ≤ 1000) : appendA (SA2 la) [102] lb = SA3 la lb ∧ appendAV (SA2 la) [102] lb = 0 := by
  have hf : fullA (SA2 la) [102] lb = false := by
    have h1 : (atA (SA2 la).L [102]).isNone = false := rfl
    have h3 : usedA (SA2 la).L = la.length := by unfold usedA SA2; simp
    unfold fullA
    rw [h1, h3]
    show (false || decide ((1048576 : Int) < ((la.length + lb.length : Nat) : Int))) = false
    rw [decide_eq_false (by omega)]
    rfl
  unfold appendA appendAV
  rw [hf, nameF]
  exact ⟨rfl, rfl⟩
theorem sa4 (la lb : List UInt8) (keep : Int) : crashA (SA3 la lb) [keep] = SA4 la lb (clampN keep lb.length) := by
  unfold crashA SA4
  have h1 : (crash2 (SA3 la lb).L [keep]).1 = [⟨[102], la ++ lb.take (clampN keep lb.length), la.length + clampN keep lb.length⟩] := by
    show (crash2 [⟨[102], la ++ lb, la.length⟩] [keep]).1 = _
    rw [crash2]
    by_cases h0 : la.length = (la ++ lb).length
    · have h2 : lb = [] := by rw [List.length_append] at h0; exact List.length_eq_zero_iff.1 (by omega)
      subst h2
      have h3 : clampN keep ([] : List UInt8).length = 0 := by unfold clampN; simp only [List.length_nil]; omega
      rw [if_pos h0, h3]
      rfl
    · rw [if_neg h0]
      have h2 : max 0 (min keep (((la ++ lb).length : Int) - (la.length : Int))) = max 0 (min keep (lb.length : Int)) := by rw [List.length_append]; congr 2; omega
      show [cutA ⟨[102], la ++ lb, la.length⟩ keep] = _
      unfold cutA
      simp only [h2]
      have h3 : (la ++ lb).take (la.length + (max 0 (min keep (lb.length : Int))).toNat) = la ++ lb.take (clampN keep lb.length) := by
        rw [List.take_length_add_append]
        rfl
      rw [h3]
      rfl
  rw [h1]
  rfl
theorem sa5 (la lb : List UInt8) (n : Nat) : readA (SA4 la lb n) [102] = (la ++ lb.take n, 0) := rfl
theorem wf_mk (q deeds : Int) (L : List AFile) (h1 : 0 ≤ deeds) (h2 : deeds ≤ 1000000) (h3 : L.length ≤ 1000000) (h4 : usedA L ≤ 1099511627776) : WfA ⟨q, deeds, -1, false, L⟩ := ⟨Int.le_refl _, (by show (-1 : Int) ≤ _; decide), h1, h2, h3, h4⟩
theorem swf0 : WfA SA0 := by refine ⟨?_, ?_, ?_, ?_, ?_, ?_⟩ <;> decide
theorem swf1 (la : List UInt8) (h : la.length ≤ 1000) : WfA (SA1 la) := by
  refine wf_mk _ _ _ (by decide) (by decide) (by show 1 ≤ 1000000; decide) ?_
  unfold usedA; simp; omega
theorem swf2 (la : List UInt8) (h : la.length ≤ 1000) : WfA (SA2 la) := by
  refine wf_mk _ _ _ (by decide) (by decide) (by show 1 ≤ 1000000; decide) ?_
  unfold usedA; simp; omega
theorem swf3 (la lb : List UInt8) (h : la.length ≤ 1000) (h2 : lb.length ≤ 1000) : WfA (SA3 la lb) := by
  refine wf_mk _ _ _ (by decide) (by decide) (by show 1 ≤ 1000000; decide) ?_
  unfold usedA; simp; omega
theorem swf4 (la lb : List UInt8) (n : Nat) (h : la.length ≤ 1000) (h2 : lb.length ≤ 1000) : WfA (SA4 la lb n) := by
  refine wf_mk _ _ _ (by decide) (by decide) (by show 1 ≤ 1000000; decide) ?_
  unfold usedA
  simp only [List.map_cons, List.map_nil, List.sum_cons, List.sum_nil, List.length_append, List.length_take]; omega
theorem snm (la lb : List UInt8) : NamesA (SA3 la lb) := by
  intro f hf
  have : f = ⟨[102], la ++ lb, la.length⟩ := by simpa [SA3] using hf
  subst this
  show 1 ≤ 1000000
  decide
theorem slice_to (W : World) (A : Option Addr) (m c n : Nat) (hn : n ≤ c) :
    (Instr.slice 32 (.slice A m c) none (some (.int .i64 (n : Int))) none).run Try.prog W = .ok (.slice A n c) W := by
  have ht := Try.underlying32
  have ht' : Try.prog.underlying 32 = some (.slice (Try.prog.elem 32)) := by simp [Program.elem, ht]
  have he : Try.prog.elem 32 = 5 := by simp [Program.elem, ht]
  rw [run_slice_h W 32 _ _ _ ht' .i64 (n : Int) (by omega) (by omega), he, Try.sizeOf5]
  cases A <;> simp [Result.andThen, sliced, Addr.add]
theorem str_cat (a b : List UInt8) : str a ++ str b = str (a ++ b) := by
  apply ByteArray.ext
  simp [str]
theorem Rd.takeN {w : World} {B : Nat} {A : Option Addr} {m c : Nat} {l : List UInt8} (h : Rd w B (.slice A m c) l) (n : Nat) (hn : n ≤ l.length) : Rd w B (.slice A n c) (l.take n) := by
  obtain ⟨A', c', e, h1, h2, h3⟩ := h
  injection e with e1 e2 e3
  subst e1 e2 e3
  have hl : (l.take n).length = n := by rw [List.length_take]; omega
  refine ⟨A, c, by rw [hl], by omega, h2, fun h0 => ?_⟩
  obtain ⟨b, o, rfl, hb, hc⟩ := h3 (by omega)
  refine ⟨b, o, rfl, hb, fun j hj => ?_⟩
  rw [hc j (by omega), List.getElem_take]
/-- A slice that came in is none of a disk's. -/
theorem rd_out {w : World} {B lo g b : Nat} {d : KDisk} {v : Value} {l : List UInt8} (h : Rd w B v l) (hd : DiskAt w lo g b d) (hB : B ≤ lo) : Rdp w (fun k => ¬ Foot g b d.E k) v l :=
  h.rdp.mono fun k hk hf => by have := (hd.lt k hf).1; omega

set_option maxHeartbeats 3200000 in
set_option maxRecDepth 100000 in
theorem ksafe_any (v u : Value) (la lb : List UInt8) (keep : Int) (w : World) (hr : Rd w w.heap.size v la) (hu : Rd w w.heap.size u lb) :
    Calls Try.prog 4 #[v, u, .int .i64 keep] w (Holds w) := by
  have RA := Lib.hid hr
  have RB := Lib.hid hu
  obtain ⟨Aa, ca, rfl, hlc, hcm, _⟩ := hr
  obtain ⟨Ab, cb, rfl, hlc2, hcm2, _⟩ := hu
  clear hcm hcm2
  by_cases h3 : (1000 : Int) < (la.length : Int)
  · go_enter Try.func4, Try.ntmps4
    go_wp2_with fail
    refine (klives_any _).mono ?_
    rintro e w1 ⟨rfl, b1⟩
    go_wp2_with fail
    go_ret
    exact ⟨rfl, b1⟩
  by_cases h4 : (1000 : Int) < (lb.length : Int)
  · go_enter Try.func4, Try.ntmps4
    go_wp2_with fail
    refine (klives_any _).mono ?_
    rintro e w1 ⟨rfl, b1⟩
    go_wp2_with fail
    go_ret
    exact ⟨rfl, b1⟩
  have HLA : Hid (la.length ≤ 1000) := Lib.hid (by omega)
  have HLB : Hid (lb.length ≤ 1000) := Lib.hid (by omega)
  obtain ⟨n, hn⟩ : ∃ n, n = clampN keep lb.length := ⟨_, rfl⟩
  have hcl : n ≤ lb.length ∧ (if keep < 0 then (0 : Int) else if (lb.length : Int) < keep then (lb.length : Int) else keep) = (n : Int) := by
    rw [hn]; unfold clampN
    refine ⟨by omega, ?_⟩
    split
    · omega
    · split <;> omega
  have HN := Lib.hid hn
  have HCL := Lib.hid hcl
  have sl := fun W => slice_to W Ab lb.length cb n (by have := hcl.1; omega)
  have SL := Lib.hid sl
  have st : ¬ (9223372036854775807 < la.length + min n lb.length) ∧ str la ++ str (lb.take n) = str (la ++ lb.take n) := ⟨by have := HLA.out; have := HLB.out; omega, str_cat _ _⟩
  have ST := Lib.hid st
  clear hn hcl sl st
  go_enter Try.func4, Try.ntmps4
  go_wp2_with fail
  refine (knew 1048576 _ (by decide) (by decide)).mono ?_
  rintro e w0 ⟨g, b, rfl, hd0, hb0⟩
  have HD0 := Lib.hid hd0
  have HB0 := Lib.hid hb0
  clear hd0 hb0
  go_wp2_with fail
  refine (klives_any _).mono ?_
  rintro e w1 ⟨rfl, b1⟩
  have HD1 := Lib.hid (HD0.out.below b1)
  have HB1 := Lib.hid (HB0.out.trans (b1.mono HB0.out.size))
  clear b1 HD0
  go_wp2_with fail
  refine (yappend (d := newD 1048576) (by exact HD1.out) rfl swf0 [102] (by decide) la rfl (by have := HLA.out; omega) (sa1 la HLA.out).1 (sa1 la HLA.out).2 (by exact rd_out (RA.out.below HB1.out) HD1.out (Nat.le_refl _))).mono ?_
  intro e w2 hs
  obtain ⟨rfl, d2, hd2, ha2, hb2⟩ := hs.one HD1.out
  have HD2 := Lib.hid hd2
  have HA2 := Lib.hid ha2
  have HB2 := Lib.hid (HB1.out.trans hb2)
  clear hs hd2 ha2 hb2 HD1
  go_wp2_with fail
  refine (ysync (by exact HD2.out) HA2.out (swf1 la HLA.out) [102] (by decide) (sa2 la).1 (sa2 la).2).mono ?_
  intro e w3 hs
  obtain ⟨rfl, d3, hd3, ha3, hb3⟩ := hs.one HD2.out
  have HD3 := Lib.hid hd3
  have HA3 := Lib.hid ha3
  have HB3 := Lib.hid (HB2.out.trans hb3)
  clear hs hd3 ha3 hb3 HD2 HA2
  go_wp2_with fail
  refine (yappend (by exact HD3.out) HA3.out (swf2 la HLA.out) [102] (by decide) lb rfl (by have := HLB.out; omega) (sa3 la lb HLA.out HLB.out).1 (sa3 la lb HLA.out HLB.out).2 (by exact rd_out (RB.out.below HB3.out) HD3.out (Nat.le_refl _))).mono ?_
  intro e w4 hs
  obtain ⟨rfl, d4, hd4, ha4, hb4⟩ := hs.one HD3.out
  have HD4 := Lib.hid hd4
  have HA4 := Lib.hid ha4
  have HB4 := Lib.hid (HB3.out.trans hb4)
  have HD5 := Lib.hid (hd4.below ((Below.refl _ _).alloc (Nat.le_refl _) (.cells #[.int .i64 keep] 3)))
  clear hs hd4 ha4 hb4 HD3 HA3
  go_wp2_with fail
  refine (ycrash (by exact HD5.out) HA4.out (swf3 la lb HLA.out HLB.out) (snm la lb) _ [keep] (sa4 la lb keep) (by exact rdk_new HD4.out _ _ rfl keep)).mono ?_
  intro e w6 hs
  obtain ⟨rfl, d6, hd6, ha6, hb6⟩ := hs.one HD5.out
  rw [← HN.out] at ha6
  have HD6 := Lib.hid hd6
  have HA6 := Lib.hid ha6
  have HB6 := Lib.hid ((HB4.out.alloc HB4.out.size _).trans hb6)
  clear hs hd6 ha6 hb6 HD5 HA4 HD4
  go_wp2_with fail
  refine (yread (by exact HD6.out) HA6.out (swf4 la lb n HLA.out HLB.out) [102] (by decide)).mono ?_
  rw [sa5]
  rintro e w9 ⟨v9, rfl, own9, hb9⟩
  have HB9 := Lib.hid (HB6.out.trans (hb9.mono HB6.out.size))
  have R9 : Hid (Rd w9.drew w9.heap.size v9 (la ++ lb.take n)) := Lib.hid (own9.rd (Nat.le_refl _)).drew
  have RA9 : Hid (Rd w9.drew w.heap.size (.slice Aa la.length ca) la) := Lib.hid ((RA.out.below HB9.out).drew)
  have RB9 : Hid (Rd w9.drew w.heap.size (.slice Ab n cb) (lb.take n)) := Lib.hid ((RB.out.below HB9.out).drew.takeN n HCL.out.1)
  clear own9 hb9 HD6 HA6
  go_wp2_with fail
  · have HX : Hid ((n : Int) = 0) := Lib.hid (by have := HCL.out.2; rw [if_pos (by assumption)] at this; exact this.symm)
    refine up_start Nil (by kernel_rfl) ?_
    refine up_take (by exact at0) (by kernel_rfl) (by exact fun _ _ _ h => h) (by rfl) (by intro W hW; go_simp; try with_reducible rfl) ?_
    simp only [Act.put, List.setIfInBounds_toArray, List.set_cons_zero, List.set_cons_succ]
    refine up_take (by exact (atS at0)) (by kernel_rfl) (by exact fun _ _ _ h => h) (by rfl) (by intro W hW; go_simp; try with_reducible rfl) ?_
    simp only [Act.put, List.setIfInBounds_toArray, List.set_cons_zero, List.set_cons_succ]
    refine up_take (by exact (atS (atS at0))) (by kernel_rfl) (by exact fun _ _ _ h => h) (by rfl) (by intro W hW; go_simp; try with_reducible rfl) ?_
    simp only [Act.put, List.setIfInBounds_toArray, List.set_cons_zero, List.set_cons_succ]
    refine up_take (by exact (atS (atS (atS at0)))) (by kernel_rfl) (by exact fun _ _ _ h => h) (by rfl) (by intro W hW; go_simp; try with_reducible rfl) ?_
    simp only [Act.put, List.setIfInBounds_toArray, List.set_cons_zero, List.set_cons_succ]
    refine up_take (by exact (atS (atS (atS (atS at0))))) (by kernel_rfl) (by exact fun _ _ _ h => h) (by rfl) (by intro W hW; go_simp; try with_reducible rfl) ?_
    simp only [Act.put, List.setIfInBounds_toArray, List.set_cons_zero, List.set_cons_succ]
    refine up_take (by exact (atS (atS (atS (atS (atS at0)))))) (by kernel_rfl) (by exact fun _ _ _ h => h) (by rfl) (by intro W hW; go_simp; try with_reducible rfl) ?_
    simp only [Act.put, List.setIfInBounds_toArray, List.set_cons_zero, List.set_cons_succ]
    refine up_take (by exact (atS (atS (atS (atS (atS (atS at0))))))) (by kernel_rfl) (by exact fun _ _ _ h => h) (by rfl) (by intro W hW; go_simp; try with_reducible rfl) ?_
    simp only [Act.put, List.setIfInBounds_toArray, List.set_cons_zero, List.set_cons_succ]
    refine up_take (by exact (atS (atS (atS (atS (atS (atS (atS at0)))))))) (by kernel_rfl) (by exact fun _ _ _ h => h) (by rfl) (by intro W hW; go_simp; try with_reducible rfl) ?_
    simp only [Act.put, List.setIfInBounds_toArray, List.set_cons_zero, List.set_cons_succ]
    refine up_take (by exact (atS (atS (atS (atS (atS (atS (atS (atS at0))))))))) (by kernel_rfl) (by exact fun _ _ _ h => h) (by rfl) (by intro W hW; go_simp; try with_reducible rfl) ?_
    simp only [Act.put, List.setIfInBounds_toArray, List.set_cons_zero, List.set_cons_succ]
    refine up_take (by exact (atS (atS (atS (atS (atS (atS (atS (atS (atS at0)))))))))) (by kernel_rfl) (by exact fun _ _ _ h => h) (by rfl) (by intro W hW; go_simp; try with_reducible rfl) ?_
    simp only [Act.put, List.setIfInBounds_toArray, List.set_cons_zero, List.set_cons_succ]
    refine up_take (by exact (atS (atS (atS (atS (atS (atS (atS (atS (atS (atS at0))))))))))) (by kernel_rfl) (by exact fun _ _ _ h => h) (by rfl) (by intro W hW; go_simp; try with_reducible rfl) ?_
    simp only [Act.put, List.setIfInBounds_toArray, List.set_cons_zero, List.set_cons_succ]
    refine up_take (by exact (atS (atS (atS (atS (atS (atS (atS (atS (atS (atS (atS at0)))))))))))) (by kernel_rfl) (by exact fun _ _ _ h => h) (by rfl) (by intro W hW; go_simp; try with_reducible rfl) ?_
    simp only [Act.put, List.setIfInBounds_toArray, List.set_cons_zero, List.set_cons_succ]
    refine up_take (by exact (atS (atS (atS (atS (atS (atS (atS (atS (atS (atS (atS (atS at0))))))))))))) (by kernel_rfl) (by exact fun _ _ _ h => h) (by rfl) (by intro W hW; go_simp; try with_reducible rfl) ?_
    simp only [Act.put, List.setIfInBounds_toArray, List.set_cons_zero, List.set_cons_succ]
    refine up_take (by exact (atS (atS (atS (atS (atS (atS (atS (atS (atS (atS (atS (atS (atS at0)))))))))))))) (by kernel_rfl) (by exact fun _ _ _ h => h) (by rfl) (by intro W hW; go_simp; try with_reducible rfl) ?_
    simp only [Act.put, List.setIfInBounds_toArray, List.set_cons_zero, List.set_cons_succ]
    refine up_take (by exact (atS (atS (atS (atS (atS (atS (atS (atS (atS (atS (atS (atS (atS (atS at0))))))))))))))) (by kernel_rfl) (by exact fun _ _ _ h => h) (by rfl) (by intro W hW; go_simp; try with_reducible rfl) ?_
    simp only [Act.put, List.setIfInBounds_toArray, List.set_cons_zero, List.set_cons_succ]
    refine up_take (by exact (atS (atS (atS (atS (atS (atS (atS (atS (atS (atS (atS (atS (atS (atS (atS at0)))))))))))))))) (by kernel_rfl) (by exact fun _ _ _ h => h) (by rfl) (by intro W hW; go_simp; try with_reducible rfl) ?_
    simp only [Act.put, List.setIfInBounds_toArray, List.set_cons_zero, List.set_cons_succ]
    refine up_take (by exact (atS (atS (atS (atS (atS (atS (atS (atS (atS (atS (atS (atS (atS (atS (atS (atS at0))))))))))))))))) (by kernel_rfl) (by exact fun _ _ _ h => h) (by rfl) (by intro W hW; have q := conv_up R9.out.rdp hW not_nil; go_simp; try with_reducible rfl) ?_
    simp only [Act.put, List.setIfInBounds_toArray, List.set_cons_zero, List.set_cons_succ]
    refine up_take (by exact (atS (atS (atS (atS (atS (atS (atS (atS (atS (atS (atS (atS (atS (atS (atS (atS (atS at0)))))))))))))))))) (by kernel_rfl) (by exact fun _ _ _ h => h) (by rfl) (by intro W hW; go_simp; try with_reducible rfl) ?_
    simp only [Act.put, List.setIfInBounds_toArray, List.set_cons_zero, List.set_cons_succ]
    refine up_take (by exact (atS (atS (atS (atS (atS (atS (atS (atS (atS (atS (atS (atS (atS (atS (atS (atS (atS (atS at0))))))))))))))))))) (by kernel_rfl) (by exact fun _ _ _ h => h) (by rfl) (by intro W hW; have q := conv_up RA9.out.rdp hW not_nil; go_simp; try with_reducible rfl) ?_
    simp only [Act.put, List.setIfInBounds_toArray, List.set_cons_zero, List.set_cons_succ]
    refine up_take (by exact (atS (atS (atS (atS (atS (atS (atS (atS (atS (atS (atS (atS (atS (atS (atS (atS (atS (atS (atS at0)))))))))))))))))))) (by kernel_rfl) (by exact fun _ _ _ h => h) (by rfl) (by intro W hW; go_simp; try with_reducible rfl) ?_
    simp only [Act.put, List.setIfInBounds_toArray, List.set_cons_zero, List.set_cons_succ]
    refine up_take (by exact (atS (atS (atS (atS (atS (atS (atS (atS (atS (atS (atS (atS (atS (atS (atS (atS (atS (atS (atS (atS at0))))))))))))))))))))) (by kernel_rfl) (by exact fun _ _ _ h => h) (by rfl) (by intro W hW; go_simp; try with_reducible rfl) ?_
    simp only [Act.put, List.setIfInBounds_toArray, List.set_cons_zero, List.set_cons_succ]
    refine up_take (by exact (atS (atS (atS (atS (atS (atS (atS (atS (atS (atS (atS (atS (atS (atS (atS (atS (atS (atS (atS (atS (atS at0)))))))))))))))))))))) (by kernel_rfl) (by exact fun _ _ _ h => h) (by rfl) (by intro W hW; have q := SL.out W; rw [HX.out] at q; go_simp; try with_reducible rfl) ?_
    simp only [Act.put, List.setIfInBounds_toArray, List.set_cons_zero, List.set_cons_succ]
    refine up_take (by exact (atS (atS (atS (atS (atS (atS (atS (atS (atS (atS (atS (atS (atS (atS (atS (atS (atS (atS (atS (atS (atS (atS at0))))))))))))))))))))))) (by kernel_rfl) (by exact fun _ _ _ h => h) (by rfl) (by intro W hW; have q := conv_up RB9.out.rdp hW not_nil; go_simp; try with_reducible rfl) ?_
    simp only [Act.put, List.setIfInBounds_toArray, List.set_cons_zero, List.set_cons_succ]
    refine up_take (by exact (atS (atS (atS (atS (atS (atS (atS (atS (atS (atS (atS (atS (atS (atS (atS (atS (atS (atS (atS (atS (atS (atS (atS at0)))))))))))))))))))))))) (by kernel_rfl) (by exact fun _ _ _ h => h) (by rfl) (by intro W hW; go_simp; rw [if_neg ST.out.1, ST.out.2]) ?_
    simp only [Act.put, List.setIfInBounds_toArray, List.set_cons_zero, List.set_cons_succ]
    refine up_take (by exact (atS (atS (atS (atS (atS (atS (atS (atS (atS (atS (atS (atS (atS (atS (atS (atS (atS (atS (atS (atS (atS (atS (atS (atS at0))))))))))))))))))))))))) (by kernel_rfl) (by exact fun _ _ _ h => h) (by rfl) (by intro W hW; go_simp; try with_reducible rfl) ?_
    simp only [Act.put, List.setIfInBounds_toArray, List.set_cons_zero, List.set_cons_succ]
    refine up_take (by exact (atS (atS (atS (atS (atS (atS (atS (atS (atS (atS (atS (atS (atS (atS (atS (atS (atS (atS (atS (atS (atS (atS (atS (atS (atS at0)))))))))))))))))))))))))) (by kernel_rfl) (by exact fun _ _ _ h => h) (by rfl) (by intro W hW; go_simp; try with_reducible rfl) ?_
    simp only [Act.put, List.setIfInBounds_toArray, List.set_cons_zero, List.set_cons_succ]
    refine up_take (by exact (atS (atS (atS (atS (atS (atS (atS (atS (atS (atS (atS (atS (atS (atS (atS (atS (atS (atS (atS (atS (atS (atS (atS (atS (atS (atS at0))))))))))))))))))))))))))) (by kernel_rfl) (by exact fun _ _ _ h => h) (by rfl) (by intro W hW; go_simp; try with_reducible rfl) ?_
    simp only [Act.put, List.setIfInBounds_toArray, List.set_cons_zero, List.set_cons_succ]
    refine up_done (by kernel_rfl) ?_
    go_wp2_with fail
    go_ret
    exact ⟨rfl, drew_b HB9.out⟩
  · have HX : Hid ((n : Int) = (lb.length : Int)) := Lib.hid (by have := HCL.out.2; rw [if_neg (by omega), if_pos (by assumption)] at this; exact this.symm)
    refine up_start Nil (by kernel_rfl) ?_
    refine up_take (by exact at0) (by kernel_rfl) (by exact fun _ _ _ h => h) (by rfl) (by intro W hW; go_simp; try with_reducible rfl) ?_
    simp only [Act.put, List.setIfInBounds_toArray, List.set_cons_zero, List.set_cons_succ]
    refine up_take (by exact (atS at0)) (by kernel_rfl) (by exact fun _ _ _ h => h) (by rfl) (by intro W hW; go_simp; try with_reducible rfl) ?_
    simp only [Act.put, List.setIfInBounds_toArray, List.set_cons_zero, List.set_cons_succ]
    refine up_take (by exact (atS (atS at0))) (by kernel_rfl) (by exact fun _ _ _ h => h) (by rfl) (by intro W hW; go_simp; try with_reducible rfl) ?_
    simp only [Act.put, List.setIfInBounds_toArray, List.set_cons_zero, List.set_cons_succ]
    refine up_take (by exact (atS (atS (atS at0)))) (by kernel_rfl) (by exact fun _ _ _ h => h) (by rfl) (by intro W hW; go_simp; try with_reducible rfl) ?_
    simp only [Act.put, List.setIfInBounds_toArray, List.set_cons_zero, List.set_cons_succ]
    refine up_take (by exact (atS (atS (atS (atS at0))))) (by kernel_rfl) (by exact fun _ _ _ h => h) (by rfl) (by intro W hW; go_simp; try with_reducible rfl) ?_
    simp only [Act.put, List.setIfInBounds_toArray, List.set_cons_zero, List.set_cons_succ]
    refine up_take (by exact (atS (atS (atS (atS (atS at0)))))) (by kernel_rfl) (by exact fun _ _ _ h => h) (by rfl) (by intro W hW; go_simp; try with_reducible rfl) ?_
    simp only [Act.put, List.setIfInBounds_toArray, List.set_cons_zero, List.set_cons_succ]
    refine up_take (by exact (atS (atS (atS (atS (atS (atS at0))))))) (by kernel_rfl) (by exact fun _ _ _ h => h) (by rfl) (by intro W hW; go_simp; try with_reducible rfl) ?_
    simp only [Act.put, List.setIfInBounds_toArray, List.set_cons_zero, List.set_cons_succ]
    refine up_take (by exact (atS (atS (atS (atS (atS (atS (atS at0)))))))) (by kernel_rfl) (by exact fun _ _ _ h => h) (by rfl) (by intro W hW; go_simp; try with_reducible rfl) ?_
    simp only [Act.put, List.setIfInBounds_toArray, List.set_cons_zero, List.set_cons_succ]
    refine up_take (by exact (atS (atS (atS (atS (atS (atS (atS (atS at0))))))))) (by kernel_rfl) (by exact fun _ _ _ h => h) (by rfl) (by intro W hW; go_simp; try with_reducible rfl) ?_
    simp only [Act.put, List.setIfInBounds_toArray, List.set_cons_zero, List.set_cons_succ]
    refine up_take (by exact (atS (atS (atS (atS (atS (atS (atS (atS (atS at0)))))))))) (by kernel_rfl) (by exact fun _ _ _ h => h) (by rfl) (by intro W hW; go_simp; try with_reducible rfl) ?_
    simp only [Act.put, List.setIfInBounds_toArray, List.set_cons_zero, List.set_cons_succ]
    refine up_take (by exact (atS (atS (atS (atS (atS (atS (atS (atS (atS (atS at0))))))))))) (by kernel_rfl) (by exact fun _ _ _ h => h) (by rfl) (by intro W hW; go_simp; try with_reducible rfl) ?_
    simp only [Act.put, List.setIfInBounds_toArray, List.set_cons_zero, List.set_cons_succ]
    refine up_take (by exact (atS (atS (atS (atS (atS (atS (atS (atS (atS (atS (atS at0)))))))))))) (by kernel_rfl) (by exact fun _ _ _ h => h) (by rfl) (by intro W hW; go_simp; try with_reducible rfl) ?_
    simp only [Act.put, List.setIfInBounds_toArray, List.set_cons_zero, List.set_cons_succ]
    refine up_take (by exact (atS (atS (atS (atS (atS (atS (atS (atS (atS (atS (atS (atS at0))))))))))))) (by kernel_rfl) (by exact fun _ _ _ h => h) (by rfl) (by intro W hW; go_simp; try with_reducible rfl) ?_
    simp only [Act.put, List.setIfInBounds_toArray, List.set_cons_zero, List.set_cons_succ]
    refine up_take (by exact (atS (atS (atS (atS (atS (atS (atS (atS (atS (atS (atS (atS (atS at0)))))))))))))) (by kernel_rfl) (by exact fun _ _ _ h => h) (by rfl) (by intro W hW; go_simp; try with_reducible rfl) ?_
    simp only [Act.put, List.setIfInBounds_toArray, List.set_cons_zero, List.set_cons_succ]
    refine up_take (by exact (atS (atS (atS (atS (atS (atS (atS (atS (atS (atS (atS (atS (atS (atS at0))))))))))))))) (by kernel_rfl) (by exact fun _ _ _ h => h) (by rfl) (by intro W hW; go_simp; try with_reducible rfl) ?_
    simp only [Act.put, List.setIfInBounds_toArray, List.set_cons_zero, List.set_cons_succ]
    refine up_take (by exact (atS (atS (atS (atS (atS (atS (atS (atS (atS (atS (atS (atS (atS (atS (atS at0)))))))))))))))) (by kernel_rfl) (by exact fun _ _ _ h => h) (by rfl) (by intro W hW; go_simp; try with_reducible rfl) ?_
    simp only [Act.put, List.setIfInBounds_toArray, List.set_cons_zero, List.set_cons_succ]
    refine up_take (by exact (atS (atS (atS (atS (atS (atS (atS (atS (atS (atS (atS (atS (atS (atS (atS (atS at0))))))))))))))))) (by kernel_rfl) (by exact fun _ _ _ h => h) (by rfl) (by intro W hW; have q := conv_up R9.out.rdp hW not_nil; go_simp; try with_reducible rfl) ?_
    simp only [Act.put, List.setIfInBounds_toArray, List.set_cons_zero, List.set_cons_succ]
    refine up_take (by exact (atS (atS (atS (atS (atS (atS (atS (atS (atS (atS (atS (atS (atS (atS (atS (atS (atS at0)))))))))))))))))) (by kernel_rfl) (by exact fun _ _ _ h => h) (by rfl) (by intro W hW; go_simp; try with_reducible rfl) ?_
    simp only [Act.put, List.setIfInBounds_toArray, List.set_cons_zero, List.set_cons_succ]
    refine up_take (by exact (atS (atS (atS (atS (atS (atS (atS (atS (atS (atS (atS (atS (atS (atS (atS (atS (atS (atS at0))))))))))))))))))) (by kernel_rfl) (by exact fun _ _ _ h => h) (by rfl) (by intro W hW; have q := conv_up RA9.out.rdp hW not_nil; go_simp; try with_reducible rfl) ?_
    simp only [Act.put, List.setIfInBounds_toArray, List.set_cons_zero, List.set_cons_succ]
    refine up_take (by exact (atS (atS (atS (atS (atS (atS (atS (atS (atS (atS (atS (atS (atS (atS (atS (atS (atS (atS (atS at0)))))))))))))))))))) (by kernel_rfl) (by exact fun _ _ _ h => h) (by rfl) (by intro W hW; go_simp; try with_reducible rfl) ?_
    simp only [Act.put, List.setIfInBounds_toArray, List.set_cons_zero, List.set_cons_succ]
    refine up_take (by exact (atS (atS (atS (atS (atS (atS (atS (atS (atS (atS (atS (atS (atS (atS (atS (atS (atS (atS (atS (atS at0))))))))))))))))))))) (by kernel_rfl) (by exact fun _ _ _ h => h) (by rfl) (by intro W hW; go_simp; try with_reducible rfl) ?_
    simp only [Act.put, List.setIfInBounds_toArray, List.set_cons_zero, List.set_cons_succ]
    refine up_take (by exact (atS (atS (atS (atS (atS (atS (atS (atS (atS (atS (atS (atS (atS (atS (atS (atS (atS (atS (atS (atS (atS at0)))))))))))))))))))))) (by kernel_rfl) (by exact fun _ _ _ h => h) (by rfl) (by intro W hW; have q := SL.out W; rw [HX.out] at q; go_simp; try with_reducible rfl) ?_
    simp only [Act.put, List.setIfInBounds_toArray, List.set_cons_zero, List.set_cons_succ]
    refine up_take (by exact (atS (atS (atS (atS (atS (atS (atS (atS (atS (atS (atS (atS (atS (atS (atS (atS (atS (atS (atS (atS (atS (atS at0))))))))))))))))))))))) (by kernel_rfl) (by exact fun _ _ _ h => h) (by rfl) (by intro W hW; have q := conv_up RB9.out.rdp hW not_nil; go_simp; try with_reducible rfl) ?_
    simp only [Act.put, List.setIfInBounds_toArray, List.set_cons_zero, List.set_cons_succ]
    refine up_take (by exact (atS (atS (atS (atS (atS (atS (atS (atS (atS (atS (atS (atS (atS (atS (atS (atS (atS (atS (atS (atS (atS (atS (atS at0)))))))))))))))))))))))) (by kernel_rfl) (by exact fun _ _ _ h => h) (by rfl) (by intro W hW; go_simp; rw [if_neg ST.out.1, ST.out.2]) ?_
    simp only [Act.put, List.setIfInBounds_toArray, List.set_cons_zero, List.set_cons_succ]
    refine up_take (by exact (atS (atS (atS (atS (atS (atS (atS (atS (atS (atS (atS (atS (atS (atS (atS (atS (atS (atS (atS (atS (atS (atS (atS (atS at0))))))))))))))))))))))))) (by kernel_rfl) (by exact fun _ _ _ h => h) (by rfl) (by intro W hW; go_simp; try with_reducible rfl) ?_
    simp only [Act.put, List.setIfInBounds_toArray, List.set_cons_zero, List.set_cons_succ]
    refine up_take (by exact (atS (atS (atS (atS (atS (atS (atS (atS (atS (atS (atS (atS (atS (atS (atS (atS (atS (atS (atS (atS (atS (atS (atS (atS (atS at0)))))))))))))))))))))))))) (by kernel_rfl) (by exact fun _ _ _ h => h) (by rfl) (by intro W hW; go_simp; try with_reducible rfl) ?_
    simp only [Act.put, List.setIfInBounds_toArray, List.set_cons_zero, List.set_cons_succ]
    refine up_take (by exact (atS (atS (atS (atS (atS (atS (atS (atS (atS (atS (atS (atS (atS (atS (atS (atS (atS (atS (atS (atS (atS (atS (atS (atS (atS (atS at0))))))))))))))))))))))))))) (by kernel_rfl) (by exact fun _ _ _ h => h) (by rfl) (by intro W hW; go_simp; try with_reducible rfl) ?_
    simp only [Act.put, List.setIfInBounds_toArray, List.set_cons_zero, List.set_cons_succ]
    refine up_done (by kernel_rfl) ?_
    go_wp2_with fail
    go_ret
    exact ⟨rfl, drew_b HB9.out⟩
  · have HX : Hid ((n : Int) = keep) := Lib.hid (by have := HCL.out.2; rw [if_neg (by omega), if_neg (by omega)] at this; exact this.symm)
    refine up_start Nil (by kernel_rfl) ?_
    refine up_take (by exact at0) (by kernel_rfl) (by exact fun _ _ _ h => h) (by rfl) (by intro W hW; go_simp; try with_reducible rfl) ?_
    simp only [Act.put, List.setIfInBounds_toArray, List.set_cons_zero, List.set_cons_succ]
    refine up_take (by exact (atS at0)) (by kernel_rfl) (by exact fun _ _ _ h => h) (by rfl) (by intro W hW; go_simp; try with_reducible rfl) ?_
    simp only [Act.put, List.setIfInBounds_toArray, List.set_cons_zero, List.set_cons_succ]
    refine up_take (by exact (atS (atS at0))) (by kernel_rfl) (by exact fun _ _ _ h => h) (by rfl) (by intro W hW; go_simp; try with_reducible rfl) ?_
    simp only [Act.put, List.setIfInBounds_toArray, List.set_cons_zero, List.set_cons_succ]
    refine up_take (by exact (atS (atS (atS at0)))) (by kernel_rfl) (by exact fun _ _ _ h => h) (by rfl) (by intro W hW; go_simp; try with_reducible rfl) ?_
    simp only [Act.put, List.setIfInBounds_toArray, List.set_cons_zero, List.set_cons_succ]
    refine up_take (by exact (atS (atS (atS (atS at0))))) (by kernel_rfl) (by exact fun _ _ _ h => h) (by rfl) (by intro W hW; go_simp; try with_reducible rfl) ?_
    simp only [Act.put, List.setIfInBounds_toArray, List.set_cons_zero, List.set_cons_succ]
    refine up_take (by exact (atS (atS (atS (atS (atS at0)))))) (by kernel_rfl) (by exact fun _ _ _ h => h) (by rfl) (by intro W hW; go_simp; try with_reducible rfl) ?_
    simp only [Act.put, List.setIfInBounds_toArray, List.set_cons_zero, List.set_cons_succ]
    refine up_take (by exact (atS (atS (atS (atS (atS (atS at0))))))) (by kernel_rfl) (by exact fun _ _ _ h => h) (by rfl) (by intro W hW; go_simp; try with_reducible rfl) ?_
    simp only [Act.put, List.setIfInBounds_toArray, List.set_cons_zero, List.set_cons_succ]
    refine up_take (by exact (atS (atS (atS (atS (atS (atS (atS at0)))))))) (by kernel_rfl) (by exact fun _ _ _ h => h) (by rfl) (by intro W hW; go_simp; try with_reducible rfl) ?_
    simp only [Act.put, List.setIfInBounds_toArray, List.set_cons_zero, List.set_cons_succ]
    refine up_take (by exact (atS (atS (atS (atS (atS (atS (atS (atS at0))))))))) (by kernel_rfl) (by exact fun _ _ _ h => h) (by rfl) (by intro W hW; go_simp; try with_reducible rfl) ?_
    simp only [Act.put, List.setIfInBounds_toArray, List.set_cons_zero, List.set_cons_succ]
    refine up_take (by exact (atS (atS (atS (atS (atS (atS (atS (atS (atS at0)))))))))) (by kernel_rfl) (by exact fun _ _ _ h => h) (by rfl) (by intro W hW; go_simp; try with_reducible rfl) ?_
    simp only [Act.put, List.setIfInBounds_toArray, List.set_cons_zero, List.set_cons_succ]
    refine up_take (by exact (atS (atS (atS (atS (atS (atS (atS (atS (atS (atS at0))))))))))) (by kernel_rfl) (by exact fun _ _ _ h => h) (by rfl) (by intro W hW; go_simp; try with_reducible rfl) ?_
    simp only [Act.put, List.setIfInBounds_toArray, List.set_cons_zero, List.set_cons_succ]
    refine up_take (by exact (atS (atS (atS (atS (atS (atS (atS (atS (atS (atS (atS at0)))))))))))) (by kernel_rfl) (by exact fun _ _ _ h => h) (by rfl) (by intro W hW; go_simp; try with_reducible rfl) ?_
    simp only [Act.put, List.setIfInBounds_toArray, List.set_cons_zero, List.set_cons_succ]
    refine up_take (by exact (atS (atS (atS (atS (atS (atS (atS (atS (atS (atS (atS (atS at0))))))))))))) (by kernel_rfl) (by exact fun _ _ _ h => h) (by rfl) (by intro W hW; go_simp; try with_reducible rfl) ?_
    simp only [Act.put, List.setIfInBounds_toArray, List.set_cons_zero, List.set_cons_succ]
    refine up_take (by exact (atS (atS (atS (atS (atS (atS (atS (atS (atS (atS (atS (atS (atS at0)))))))))))))) (by kernel_rfl) (by exact fun _ _ _ h => h) (by rfl) (by intro W hW; go_simp; try with_reducible rfl) ?_
    simp only [Act.put, List.setIfInBounds_toArray, List.set_cons_zero, List.set_cons_succ]
    refine up_take (by exact (atS (atS (atS (atS (atS (atS (atS (atS (atS (atS (atS (atS (atS (atS at0))))))))))))))) (by kernel_rfl) (by exact fun _ _ _ h => h) (by rfl) (by intro W hW; go_simp; try with_reducible rfl) ?_
    simp only [Act.put, List.setIfInBounds_toArray, List.set_cons_zero, List.set_cons_succ]
    refine up_take (by exact (atS (atS (atS (atS (atS (atS (atS (atS (atS (atS (atS (atS (atS (atS (atS at0)))))))))))))))) (by kernel_rfl) (by exact fun _ _ _ h => h) (by rfl) (by intro W hW; go_simp; try with_reducible rfl) ?_
    simp only [Act.put, List.setIfInBounds_toArray, List.set_cons_zero, List.set_cons_succ]
    refine up_take (by exact (atS (atS (atS (atS (atS (atS (atS (atS (atS (atS (atS (atS (atS (atS (atS (atS at0))))))))))))))))) (by kernel_rfl) (by exact fun _ _ _ h => h) (by rfl) (by intro W hW; have q := conv_up R9.out.rdp hW not_nil; go_simp; try with_reducible rfl) ?_
    simp only [Act.put, List.setIfInBounds_toArray, List.set_cons_zero, List.set_cons_succ]
    refine up_take (by exact (atS (atS (atS (atS (atS (atS (atS (atS (atS (atS (atS (atS (atS (atS (atS (atS (atS at0)))))))))))))))))) (by kernel_rfl) (by exact fun _ _ _ h => h) (by rfl) (by intro W hW; go_simp; try with_reducible rfl) ?_
    simp only [Act.put, List.setIfInBounds_toArray, List.set_cons_zero, List.set_cons_succ]
    refine up_take (by exact (atS (atS (atS (atS (atS (atS (atS (atS (atS (atS (atS (atS (atS (atS (atS (atS (atS (atS at0))))))))))))))))))) (by kernel_rfl) (by exact fun _ _ _ h => h) (by rfl) (by intro W hW; have q := conv_up RA9.out.rdp hW not_nil; go_simp; try with_reducible rfl) ?_
    simp only [Act.put, List.setIfInBounds_toArray, List.set_cons_zero, List.set_cons_succ]
    refine up_take (by exact (atS (atS (atS (atS (atS (atS (atS (atS (atS (atS (atS (atS (atS (atS (atS (atS (atS (atS (atS at0)))))))))))))))))))) (by kernel_rfl) (by exact fun _ _ _ h => h) (by rfl) (by intro W hW; go_simp; try with_reducible rfl) ?_
    simp only [Act.put, List.setIfInBounds_toArray, List.set_cons_zero, List.set_cons_succ]
    refine up_take (by exact (atS (atS (atS (atS (atS (atS (atS (atS (atS (atS (atS (atS (atS (atS (atS (atS (atS (atS (atS (atS at0))))))))))))))))))))) (by kernel_rfl) (by exact fun _ _ _ h => h) (by rfl) (by intro W hW; go_simp; try with_reducible rfl) ?_
    simp only [Act.put, List.setIfInBounds_toArray, List.set_cons_zero, List.set_cons_succ]
    refine up_take (by exact (atS (atS (atS (atS (atS (atS (atS (atS (atS (atS (atS (atS (atS (atS (atS (atS (atS (atS (atS (atS (atS at0)))))))))))))))))))))) (by kernel_rfl) (by exact fun _ _ _ h => h) (by rfl) (by intro W hW; have q := SL.out W; rw [HX.out] at q; go_simp; try with_reducible rfl) ?_
    simp only [Act.put, List.setIfInBounds_toArray, List.set_cons_zero, List.set_cons_succ]
    refine up_take (by exact (atS (atS (atS (atS (atS (atS (atS (atS (atS (atS (atS (atS (atS (atS (atS (atS (atS (atS (atS (atS (atS (atS at0))))))))))))))))))))))) (by kernel_rfl) (by exact fun _ _ _ h => h) (by rfl) (by intro W hW; have q := conv_up RB9.out.rdp hW not_nil; go_simp; try with_reducible rfl) ?_
    simp only [Act.put, List.setIfInBounds_toArray, List.set_cons_zero, List.set_cons_succ]
    refine up_take (by exact (atS (atS (atS (atS (atS (atS (atS (atS (atS (atS (atS (atS (atS (atS (atS (atS (atS (atS (atS (atS (atS (atS (atS at0)))))))))))))))))))))))) (by kernel_rfl) (by exact fun _ _ _ h => h) (by rfl) (by intro W hW; go_simp; rw [if_neg ST.out.1, ST.out.2]) ?_
    simp only [Act.put, List.setIfInBounds_toArray, List.set_cons_zero, List.set_cons_succ]
    refine up_take (by exact (atS (atS (atS (atS (atS (atS (atS (atS (atS (atS (atS (atS (atS (atS (atS (atS (atS (atS (atS (atS (atS (atS (atS (atS at0))))))))))))))))))))))))) (by kernel_rfl) (by exact fun _ _ _ h => h) (by rfl) (by intro W hW; go_simp; try with_reducible rfl) ?_
    simp only [Act.put, List.setIfInBounds_toArray, List.set_cons_zero, List.set_cons_succ]
    refine up_take (by exact (atS (atS (atS (atS (atS (atS (atS (atS (atS (atS (atS (atS (atS (atS (atS (atS (atS (atS (atS (atS (atS (atS (atS (atS (atS at0)))))))))))))))))))))))))) (by kernel_rfl) (by exact fun _ _ _ h => h) (by rfl) (by intro W hW; go_simp; try with_reducible rfl) ?_
    simp only [Act.put, List.setIfInBounds_toArray, List.set_cons_zero, List.set_cons_succ]
    refine up_take (by exact (atS (atS (atS (atS (atS (atS (atS (atS (atS (atS (atS (atS (atS (atS (atS (atS (atS (atS (atS (atS (atS (atS (atS (atS (atS (atS at0))))))))))))))))))))))))))) (by kernel_rfl) (by exact fun _ _ _ h => h) (by rfl) (by intro W hW; go_simp; try with_reducible rfl) ?_
    simp only [Act.put, List.setIfInBounds_toArray, List.set_cons_zero, List.set_cons_succ]
    refine up_done (by kernel_rfl) ?_
    go_wp2_with fail
    go_ret
    exact ⟨rfl, drew_b HB9.out⟩
end Go.Proofs.Ythnepbdkbiieiab
