/-
  What must come of every program of layer 3 (newsstandlaw03.lives): it answers true, and nothing that was there is changed. No condition.
-/
import Derived.Test.YtincdegoiknfhabKLive
namespace Go.Proofs.Ytincdegoiknfhab
open Go.RowKit

def LA0 : ADisk := ⟨10, 0, -1, false, []⟩
def LA1 : ADisk := ⟨10, 1, -1, false, [⟨[97], [97, 98, 99], 0⟩]⟩
def LA4 : ADisk := ⟨10, 2, -1, false, [⟨[97], [97, 98, 99], 3⟩]⟩
def LA5 : ADisk := ⟨10, 3, -1, false, [⟨[97], [97, 98, 99, 100, 101], 3⟩]⟩
def LA7 : ADisk := ⟨10, 3, 0, false, [⟨[97], [97, 98, 99, 100, 101], 3⟩]⟩
def LA8 : ADisk := ⟨10, 3, 0, true, [⟨[97], [97, 98, 99, 100, 101], 3⟩]⟩
def LA10 : ADisk := ⟨10, 3, -1, false, [⟨[97], [97, 98, 99, 100], 4⟩]⟩
def LC12 : ADisk := ⟨10, 4, -1, false, [⟨[122], [97, 98, 99, 100, 101], 3⟩]⟩
theorem wf0 : WfA LA0 := by refine ⟨?_, ?_, ?_, ?_, ?_, ?_⟩ <;> decide
theorem wf1 : WfA LA1 := by refine ⟨?_, ?_, ?_, ?_, ?_, ?_⟩ <;> decide
theorem wf4 : WfA LA4 := by refine ⟨?_, ?_, ?_, ?_, ?_, ?_⟩ <;> decide
theorem wf5 : WfA LA5 := by refine ⟨?_, ?_, ?_, ?_, ?_, ?_⟩ <;> decide
theorem wf7 : WfA LA7 := by refine ⟨?_, ?_, ?_, ?_, ?_, ?_⟩ <;> decide
theorem wf8 : WfA LA8 := by refine ⟨?_, ?_, ?_, ?_, ?_, ?_⟩ <;> decide
theorem wf10 : WfA LA10 := by refine ⟨?_, ?_, ?_, ?_, ?_, ?_⟩ <;> decide
theorem wf12 : WfA LC12 := by refine ⟨?_, ?_, ?_, ?_, ?_, ?_⟩ <;> decide
theorem nm5 : NamesA LA5 := by unfold NamesA; decide
theorem nm8 : NamesA LA8 := by unfold NamesA; decide
theorem la1 : appendA LA0 [97] [97, 98, 99] = LA1 := by kernel_rfl
theorem lv1 : appendAV LA0 [97] [97, 98, 99] = 0 := by kernel_rfl
theorem la2 : appendA LA1 [66] [] = LA1 := by kernel_rfl
theorem lv2 : appendAV LA1 [66] [] = 31 := by kernel_rfl
theorem la3 : appendA LA1 [98] [0, 0, 0, 0, 0, 0, 0, 0] = LA1 := by kernel_rfl
theorem lv3 : appendAV LA1 [98] [0, 0, 0, 0, 0, 0, 0, 0] = 2 := by kernel_rfl
theorem la4 : syncA LA1 [97] = LA4 := by kernel_rfl
theorem lv4 : syncAV LA1 [97] = 0 := by kernel_rfl
theorem la5 : appendA LA4 [97] [100, 101] = LA5 := by kernel_rfl
theorem lv5 : appendAV LA4 [97] [100, 101] = 0 := by kernel_rfl
theorem la7 : stopA LA5 0 = LA7 := by kernel_rfl
theorem lv7 : stopV 0 = 0 := by kernel_rfl
theorem la8 : renameA LA7 [97] [99] = LA8 := by kernel_rfl
theorem lv8 : renameAV LA7 [97] [99] = 30 := by kernel_rfl
theorem la10 : crashA LA8 [1] = LA10 := by kernel_rfl
theorem lr11 : readA LA10 [97] = ([97, 98, 99, 100], 0) := by kernel_rfl
theorem lc12 : renameA LA5 [97] [122] = LC12 := by kernel_rfl
theorem lw12 : renameAV LA5 [97] [122] = 0 := by kernel_rfl
theorem ln13 : LC12.L.map AFile.name = [[122]] := by kernel_rfl
theorem lu14 : usedA LA10.L = 4 := by kernel_rfl
theorem ld15 : deleteA LA10 [120] = LA10 := by kernel_rfl
theorem lx15 : deleteAV LA10 [120] = 4 := by kernel_rfl
theorem lo8 : LA8.off = true := rfl
theorem lo10 : LA10.off = false := rfl
theorem lde12 : LC12.deeds = 4 := rfl
theorem lde10 : LA10.deeds = 3 := rfl
theorem lnew : absD (newD 10) = LA0 := rfl

set_option maxHeartbeats 3200000 in
set_option maxRecDepth 100000 in
theorem klives_any (w : World) : Calls Try.prog 11 #[] w (Holds w) := by
  have kc := fun (w : World) (C : Array Value) (n c : Nat) => Lib.run_convert_bytes_const (P := Try.prog) w 36 5 C n c Try.underlying36 Try.underlying5
  have hmk : ∀ W : World, (Instr.makeSlice 36 (.int .i64 8) (.int .i64 8)).run Try.prog W = .ok (.slice (some ⟨W.heap.size, 0, none⟩) 8 8) (W.alloc (.cells #[.int .u8 0, .int .u8 0, .int .u8 0, .int .u8 0, .int .u8 0, .int .u8 0, .int .u8 0, .int .u8 0] 5)) := fun W => by kernel_rfl
  go_enter Try.func11, Try.ntmps11
  go_wp2_with fail
  refine (knew 10 _ (by decide) (by decide)).mono ?_
  rintro e w0 ⟨g, b, rfl, hd0, hb0⟩
  have HD0 := Lib.hid hd0
  have HB0 := Lib.hid hb0
  clear hd0 hb0
  go_wp2_with fail
  refine (yappend (d := newD 10) (lo := w.heap.size) (b := b) (by exact (HD0.out.below ((Below.refl _ _).alloc (Nat.le_refl _) _))) lnew wf0 [97] (by decide) [97, 98, 99] rfl (by decide) la1 lv1 (by exact rdp_new HD0.out _ _ rfl _ _ _ [97, 98, 99] rfl rfl (by decide))).mono ?_
  intro e w1 hs
  obtain ⟨rfl, d1, hd1, ha1, hb1⟩ := hs.one (HD0.out.below ((Below.refl _ _).alloc (Nat.le_refl _) _))
  have B1 := Lib.hid (((HB0.out.alloc HB0.out.size _).trans hb1))
  have HD1 := Lib.hid hd1
  have HA1 := Lib.hid ha1
  clear hs hd1 ha1 hb1
  go_wp2_with fail
  refine (yappend (by exact HD1.out) HA1.out wf1 [66] (by decide) [] rfl (by decide) la2 lv2 (by exact rdp_nil _ _)).mono ?_
  intro e w2 hs
  obtain ⟨rfl, d2, hd2, ha2, hb2⟩ := hs.one HD1.out
  have B2 := Lib.hid (B1.out.trans hb2)
  have HD2 := Lib.hid hd2
  have HA2 := Lib.hid ha2
  clear hs hd2 ha2 hb2
  go_wp2_with fail
  refine (yappend (d := d2) (lo := w.heap.size) (b := b) (by exact (HD2.out.below ((Below.refl _ _).alloc (Nat.le_refl _) _))) HA2.out wf1 [98] (by decide) [0, 0, 0, 0, 0, 0, 0, 0] rfl (by decide) la3 lv3 (by exact rdp_new HD2.out _ _ rfl _ _ _ [0, 0, 0, 0, 0, 0, 0, 0] rfl rfl (by decide))).mono ?_
  intro e w3 hs
  obtain ⟨rfl, d3, hd3, ha3, hb3⟩ := hs.one (HD2.out.below ((Below.refl _ _).alloc (Nat.le_refl _) _))
  have B3 := Lib.hid ((B2.out.alloc B2.out.size _).trans hb3)
  have HD3 := Lib.hid hd3
  have HA3 := Lib.hid ha3
  clear hs hd3 ha3 hb3 HD2 HA2
  go_wp2_with fail
  refine (ysync (by exact HD3.out) HA3.out wf1 [97] (by decide) la4 lv4).mono ?_
  intro e w4 hs
  obtain ⟨rfl, d4, hd4, ha4, hb4⟩ := hs.one HD3.out
  have B4 := Lib.hid (B3.out.trans hb4)
  have HD4 := Lib.hid hd4
  have HA4 := Lib.hid ha4
  clear hs hd4 ha4 hb4 HD3 HA3
  go_wp2_with fail
  refine (yappend (d := d4) (lo := w.heap.size) (b := b) (by exact (HD4.out.below ((Below.refl _ _).alloc (Nat.le_refl _) _))) HA4.out wf4 [97] (by decide) [100, 101] rfl (by decide) la5 lv5 (by exact rdp_new HD4.out _ _ rfl _ _ _ [100, 101] rfl rfl (by decide))).mono ?_
  intro e w5 hs
  obtain ⟨rfl, d5, hd5, ha5, hb5⟩ := hs.one (HD4.out.below ((Below.refl _ _).alloc (Nat.le_refl _) _))
  have B5 := Lib.hid ((B4.out.alloc B4.out.size _).trans hb5)
  have HD5 := Lib.hid hd5
  have HA5 := Lib.hid ha5
  clear hs hd5 ha5 hb5 HD4 HA4
  go_wp2_with fail
  refine (yclone (by exact HD5.out) HA5.out wf5 nm5).mono ?_
  intro e w6 hs
  obtain ⟨g2, b2, c6, rfl, ht6, hc6, hb6⟩ := two_clone HD5.out B5.out.size hs
  have T6 := Lib.hid ht6
  have HC6 := Lib.hid (hc6.trans HA5.out)
  have HA6 := Lib.hid HA5.out
  have B6 := Lib.hid (B5.out.trans (hb6.mono B5.out.size))
  clear hs ht6 hc6 hb6 HD5 HA5
  go_wp2_with fail
  refine (ystop (by exact T6.out.1) HA6.out 0 la7 lv7).mono ?_
  intro e w7 hs
  obtain ⟨rfl, d7, ht7, ha7, hb7⟩ := T6.out.step hs
  have T7 := Lib.hid ht7
  have HA7 := Lib.hid ha7
  have B7 := Lib.hid (B6.out.trans hb7)
  clear hs ht7 ha7 hb7 T6 HA6
  go_wp2_with fail
  refine (yrename (by exact T7.out.1) HA7.out wf7 [97] [99] (by decide) (by decide) la8 lv8).mono ?_
  intro e w8 hs
  obtain ⟨rfl, d8, ht8, ha8, hb8⟩ := T7.out.step hs
  have T8 := Lib.hid ht8
  have HA8 := Lib.hid ha8
  have B8 := Lib.hid (B7.out.trans hb8)
  clear hs ht8 ha8 hb8 T7 HA7
  go_wp2_with fail
  refine (yoff (by exact T8.out.1) HA8.out).mono ?_
  rw [lo8]
  rintro e w9 ⟨rfl, rfl⟩
  have TA := Lib.hid (T8.out.below ((Below.refl _ _).alloc (Nat.le_refl _) (.cells #[.int .i64 1] 3)))
  go_wp2_with fail
  refine (ycrash (by exact TA.out.1) HA8.out wf8 nm8 _ [1] la10 (by exact rdk_new T8.out.1 _ _ rfl 1)).mono ?_
  intro e w10 hs
  obtain ⟨rfl, d10, ht10, ha10, hb10⟩ := TA.out.step hs
  have T10 := Lib.hid ht10
  have HA10 := Lib.hid ha10
  have B10 := Lib.hid ((B8.out.alloc B8.out.size _).trans hb10)
  clear hs ht10 ha10 hb10 T8 HA8 TA
  go_wp2_with fail
  refine (yread (by exact T10.out.1) HA10.out wf10 [97] (by decide)).mono ?_
  rw [lr11]
  rintro e w11 ⟨v11, rfl, own11, hb11⟩
  have T11 := Lib.hid (T10.out.below hb11)
  have R11 := Lib.hid own11.rdp
  have HFC := Lib.hid (fun k hk => (T10.out.2.1.lt k hk).2)
  have B11 := Lib.hid (B10.out.trans (hb11.mono B10.out.size))
  clear own11 hb11 T10
  go_wp2_with fail
  refine (yrename (by exact T11.out.2.1) HC6.out wf5 [97] [122] (by decide) (by decide) lc12 lw12).mono ?_
  intro e w12 hs
  have ho12 := hs.2.choose_spec.2.2.1
  obtain ⟨rfl, c12, ht12, hc12, hb12⟩ := T11.out.swap.step hs
  have R12 := Lib.hid ((R11.out.kept (D := Foot g2 b2 c6.E) ⟨ho12.1, ho12.2.1, ho12.2.2.1, ho12.2.2.2.1, ho12.2.2.2.2⟩ (fun k hk hf => by have := HFC.out k hf; omega)).rd)
  have T12 := Lib.hid ht12.swap
  have HC12 := Lib.hid hc12
  have B12 := Lib.hid (B11.out.trans hb12)
  clear hs ho12 ht12 hc12 hb12 T11 R11 HFC HC6
  go_wp2_with fail
  refine (ynames (by exact T12.out.2.1) HC12.out wf12).mono ?_
  rw [ln13]
  rintro e w13 ⟨v13, rfl, own13, hb13⟩
  obtain ⟨A13, c13, hv13⟩ := own_shape own13
  have e13 : (strs [[122]]).length = 1 := rfl
  rw [e13] at hv13
  subst hv13
  obtain ⟨g13, rfl, hg13, q1, q2, q3, hcell13⟩ := own_at own13 (by decide)
  have x13 : w13.cell? ⟨g13, 0, none⟩ = some (.string (str [122])) := hcell13 0 (by decide)
  have hl13 := (World.block_lt_of_cell? w13 _ x13)
  have q := conv_at (R12.out.below hb13)
  have T13 := Lib.hid (T12.out.below hb13)
  have B13 := Lib.hid (B12.out.trans (hb13.mono B12.out.size))
  have X13 := Lib.hid x13
  have L13 := Lib.hid hl13
  clear q1 q2 q3 own13 hb13 hcell13 hg13 x13 hl13 T12 R12 e13
  go_wp2_with fail
  refine (yoff (by exact T13.out.1) HA10.out).mono ?_
  rw [lo10]
  rintro e w14 ⟨rfl, rfl⟩
  go_wp2_with fail
  refine (yused (by exact T13.out.1) HA10.out wf10).mono ?_
  rw [lu14]
  rintro e w15 ⟨rfl, hb15⟩
  have x15 : w15.cell? ⟨g13, 0, none⟩ = some (.string (str [122])) := (hb15.cell (p := ⟨g13, 0, none⟩) L13.out).trans X13.out
  have T15 := Lib.hid (T13.out.below hb15)
  have B15 := Lib.hid (B13.out.trans (hb15.mono B13.out.size))
  clear hb15 T13 X13 L13 q
  go_wp2_with fail
  refine (ydeeds (by exact T15.out.2.1) HC12.out).mono ?_
  rw [lde12]
  rintro e w16 ⟨rfl, rfl⟩
  go_wp2_with fail
  refine (ydeeds (by exact T15.out.1) HA10.out).mono ?_
  rw [lde10]
  rintro e w17 ⟨rfl, rfl⟩
  go_wp2_with fail
  refine (ydelete (by exact T15.out.1) HA10.out wf10 [120] (by decide) ld15 lx15).mono ?_
  intro e w18 hs
  obtain ⟨rfl, d18, ht18, ha18, hb18⟩ := T15.out.step hs
  have B18 := Lib.hid (B15.out.trans hb18)
  clear hs ht18 ha18 hb18 x15
  go_wp2_with fail
  go_ret
  exact ⟨rfl, B18.out⟩
end Go.Proofs.Ytincdegoiknfhab
