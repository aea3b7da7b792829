/-
  An event that may be is refused when it is given another kind, or a text that its kind does not use (newsstandlaw14.EventFields answers true). Conditions: those of the statement.
-/
import Derived.Test.YtelhdkidnhfnbabGreatDoorRows
import Derived.Test.YtelhdkidnhfnbabGreatDoorCards
import Derived.Test.YtelhdkidnhfnbabGreatDoorTie
import Derived.Lay
import Derived.LaidMore
import Derived.Stop.Joined
import Derived.SevenTiedAt
import Derived.Test.YtelhdkidnhfnbabGreatDoorVFields
import Derived.WalkKit
import Derived.ProofKit
import Derived.OpenShut
import Derived.ShutString
import Derived.ChangeOld
import Derived.Below
import Derived.Test.YtelhdkidnhfnbabGreatDoorVShow
namespace Go.Proofs.YtelhdkidnhfnbabGreatDoor
open Go.ChangeShapes Go.WideShapes Go.ChangeAt Go.WideMaps Go.WideElems Go.RowKit

theorem gPow : Tryz.prog.globalNamed "internal/strconv.uint64pow10" = some 1 := by kernel_rfl
theorem tPow : (Tryz.prog.globals[1]?).map (·.type) = some 95 := by kernel_rfl
theorem gNames : Tryz.prog.globalNamed "newsstand/event.names" = some 0 := by kernel_rfl
theorem tNames : (Tryz.prog.globals[0]?).map (·.type) = some 39 := by kernel_rfl
/-- The row's listed variables. -/
def listed : List (String × DataW Unit) := [("math/bits.deBruijn32tab", Rows.laid_math_bits_deBruijn32tab), ("math/bits.deBruijn64tab", Rows.laid_math_bits_deBruijn64tab), ("internal/strconv.uint64pow10", Rows.laid_internal_strconv_uint64pow10), ("unicode/utf8.acceptRanges", Rows.laid_unicode_utf8_acceptRanges), ("newsstand/event.names", Rows.laid_newsstand_event_names), ("unicode/utf8.first", Rows.laid_unicode_utf8_first)]
theorem pow_datum : (Rows.laid_internal_strconv_uint64pow10 : DataW Unit) = Lib.tabData .u64 Lib.pow10Tab := rfl
theorem names_datum : (Rows.laid_newsstand_event_names : DataW Unit) = .agg (namesL.map fun n => .lit (.string n)) := rfl
set_option maxRecDepth 100000 in
theorem ev_of {W : World} (h : laidMetH Tryz.prog listed W) (hm : MaxV W) : EvW W := by
  rw [MakeChecks.laidMetH_plain _ _ _ (by kernel_rfl)] at h
  obtain ⟨ps, ⟨_, _, _, _, _, _, _, _, _, _, ⟨_, _, _, _, _, _, _, _, _, _, ⟨g, t, cs, fuel, p, q, hg, ht, hv, hd, ⟨_, _, _, _, _, _, _, _, _, _, ⟨g2, t2, cs2, fuel2, p2, q2, hg2, ht2, hv2, hd2, _, _⟩, _⟩, _⟩, _⟩, _⟩, _⟩ := h
  obtain rfl := Option.some.inj (gPow.symm.trans hg)
  obtain rfl := Option.some.inj (tPow.symm.trans ht)
  obtain rfl := Option.some.inj (gNames.symm.trans hg2)
  obtain rfl := Option.some.inj (tNames.symm.trans ht2)
  rw [pow_datum] at hd
  have hc := Lib.cells_of_tab Tryz.underlying95 Tryz.underlying83 (by kernel_rfl) (by kernel_rfl) hd
  have htab : Lib.TabIs Tryz.prog W "internal/strconv.uint64pow10" .u64 Lib.pow10Tab := by
    unfold Lib.TabIs
    rw [hv, ← hc]
  have hT : TabP W := ⟨World.block_lt_of_cell? W ⟨1, 0, none⟩ (htab.cell gPow 0 (by decide)), htab⟩
  obtain ⟨xs, m, rfl, hx, hlen, hn, hel⟩ := DataW.trod_array Tryz.underlying39 hd2
  have cst : Tryz.prog.cellsOf 9 = 1 := by kernel_rfl
  have hx1 : namesL.map (fun n => (DataW.lit (Lit.string n) : DataW Unit)) = xs.map (·.1) := by
    have h1 := congrArg Prod.fst hx
    rw [names_datum] at h1
    injection h1
  have hN : NmsAt W := by
    have el : ∀ i, (hi : i < namesL.length) → W.cell? ⟨0, i, none⟩ = some (.string (str namesL[i])) := by
      intro i hi
      have hi13 : i < 13 := hi
      have h1 := hel i hi13
      rw [cst, List.getElem?_eq_getElem (by omega)] at h1
      obtain ⟨s, e3, e4, _⟩ := DataW.trod_string Tryz.underlying9 h1
      have d1 := congrArg (fun l => l[i]?) hx1
      simp only [List.getElem?_map, List.getElem?_eq_getElem hi, List.getElem?_eq_getElem (show i < xs.length by omega), Option.map_some, e4] at d1
      have hs2 : s.data.toList = namesL[i] := by
        injection d1 with d1
        injection d1 with d1
        injection d1 with d1
        exact d1.symm
      rw [World.var?_cell hg2 hv2 i]
      have r1 := congrArg (fun l => l[0]?) e3
      simp only [List.getElem?_take, List.getElem?_drop, Nat.add_zero] at r1
      have h5 : str namesL[i] = s := by rw [← hs2]; exact str_of s
      have r2 : cs2[i]? = some (Value.string s) := by simpa using r1
      exact r2.trans (congrArg (fun x => some (Value.string x)) h5.symm)
    exact ⟨World.block_lt_of_cell? W ⟨0, 0, none⟩ (el 0 (by decide)), el⟩
  exact ⟨hN, hT, hm⟩
theorem max_ofV {W : World} (h : W.ShapedOpen Tryz.prog) : MaxV W := Tryz.laysM143.s1_3 W h
end Go.Proofs.YtelhdkidnhfnbabGreatDoor

namespace Go.Proofs.YtelhdkidnhfnbabGreatDoor.eventFields
open Go.ChangeShapes Go.WideShapes Go.ChangeAt Go.RowKit Go.WideMaps Go.WideElems
open Go.ChangeMaps (open_string shut_string)
set_option linter.unusedVariables false

theorem own : ownKnob Tryz.prog.godebug = none := by kernel_rfl
theorem laidOut : laidOutB Tryz.prog = true := by kernel_rfl

theorem walk (a0 : Value) (a1 : Int) (w : World) (hS : EvW w) (w0 : RdEv w a0) (w1 : (Lit.int .i64 a1).wf = true) :
    Calls Tryz.prog 4 #[a0, .int .i64 a1] w fun e w' => e = .returned (.bool true) ∧ Below w.heap.size w w' := by
  obtain ⟨k, x1, b, n, s, t, u, rfl, _, r1, r2, r3⟩ := w0
  exact lfields_any w hS

set_option maxRecDepth 100000 in
theorem called (H : Type) (enc : TypeId × Value → H) (W : World) (base : Nat) (args : Array Value) (ds gs : List (DataW H)) (before : List MemPlace)
    (hval0 : ∀ (j : Nat) t v, Tryz.f4.params[j]? = some t → args[j]? = some v → Value.okWide Tryz.prog W .any base t v)
    (hW : DataW.Whole enc Tryz.prog Tryz.f4.params.toList Rows.eventFieldsSpec.vars false W args.toList ds gs before) (hL : laidMetH Tryz.prog listed W) (hQ : W.ShapedOpen Tryz.prog) :
    Calls Tryz.prog 4 args W fun e W' => ∃ v, e = .returned v ∧ Rows.eventFieldsSpec.post enc Tryz.prog Tryz.f4 false true false false W args v W' := by
  have hval : ∀ (j : Nat) t v, Tryz.f4.params[j]? = some t → args[j]? = some v → Value.okWide Tryz.prog W .any base t v := hval0
  have hW' := hW
  obtain ⟨p, q, hA0, hV, rfl, hfz, hnd⟩ := hW
  have hA : DataW.TrodAll enc Tryz.prog W 0 (fun _ => true) true Tryz.f4.params.toList args.toList ds p := hA0
  rw [Tryz.params4] at hA hval
  obtain ⟨v0, vs0, d0, ds0, p0, q0, hargs, rfl, rfl, h0, r0⟩ := trodAll_cons hA
  obtain ⟨v1, vs1, d1, ds1, p1, q1, rfl, rfl, rfl, h1, r1⟩ := trodAll_cons r0
  obtain ⟨rfl, rfl, rfl⟩ := trodAll_nil r1
  obtain rfl : args = #[v0, v1] := by cases args; simp_all
  obtain ⟨rfl, rfl⟩ := trodVars_none hV
  have k0 := h0
  have lt0 : ∀ x ∈ p0, x.block < W.heap.size := by obtain ⟨m, hm⟩ := k0; exact DataW.trod_lt m _ _ _ hm
  have w0 := ev_open (hval 0 23 v0 rfl rfl) h0
  obtain ⟨a1, rfl, rfl, rfl, w1⟩ := open_int Tryz.underlying3 (hval 1 3 v1 rfl rfl) h1
  clear hA0 hval0
  refine (walk v0 a1 W (ev_of hL (max_ofV hQ)) w0 w1).mono fun e W' ⟨he, bel⟩ => ?_
  subst he
  exact ⟨_, rfl, _, _, _, [], _, [], hW', trodAll_mk1 (shut_bool Tryz.underlying4 _), (trodAll_cons_mk (Below.trod laidOut (by kernel_rfl) (of_decide_eq_true (by kernel_rfl)) k0 bel lt0) (trodAll_cons_mk (shut_int Tryz.underlying3 w1) trodAll_mk0)), rfl, bel.frame _, fun h => by cases h⟩

set_option maxRecDepth 100000 in
theorem lifted (os : Os) (started : os.Started) (H : Type) (enc : TypeId × Value → H) :
    ReturnsInHanded {} Tryz.checked os 4 .any (fun w args => (Rows.eventFieldsSpec.pre enc Tryz.prog Tryz.f4 [] false w args ∧ laidMetH Tryz.prog listed w) ∧ sizedMet enc Tryz.prog Tryz.f4 (OpenSpec.ofChange Rows.eventFieldsSpec) false w args)
      (Rows.eventFieldsSpec.post enc Tryz.prog Tryz.f4 false true false false) := by
  refine returnsInHanded_of_calls (C := Tryz.checked) own started (by kernel_rfl) (ChangeSpec.witness_shaped (enc := enc) (C := Tryz.checked) (os := os) (X := fun w _ => laidMetH Tryz.prog listed w) false (World.laidAll Tryz.prog os listed) #[.agg #[.int .i64 0, .int .i64 0, .int .i64 0, .int .i64 0, .string ⟨#[]⟩, .string ⟨#[]⟩, .string ⟨#[]⟩], .int .i64 0] 8 (World.laidAll_os _ _ _) (World.shaped_of_ZipB (by kernel_rfl) (by kernel_rfl)) (by kernel_rfl) (by kernel_rfl) (by kernel_rfl) (by rw [MakeChecks.laidMetH_plain _ _ _ (by kernel_rfl)]; exact laidMet_laidAll _ (by kernel_rfl) (by kernel_rfl))) ?_
  intro w tape i _ shape _ fits told _
  obtain ⟨_, _, _, g, hg, _, _, _, _, vals⟩ := fits
  obtain rfl : g = Tryz.f4 := Option.some.inj (hg.symm.trans Tryz.func4)
  obtain ⟨⟨⟨ds, gs, before, whole, _⟩, lay⟩, _⟩ := told
  refine (called H enc (w.forCall tape i) w.heap.size i.args ds gs before vals (DataW.Whole.of_heap (w' := w.forCall tape i) (by rfl) whole) (lay.of_heap (by rfl)) shape).mono ?_
  rintro e W' ⟨v, rfl, done⟩
  exact ChangeSpec.post_blind done

theorem over : Rows.eventFieldsRow.holds Tryz.pinned (OpenSpec.ofChange Rows.eventFieldsSpec) :=
  OpenClaim.holds_of_wide 4 Tryz.f4 rfl rfl rfl rfl rfl rfl rfl ⟨rfl, rfl, rfl, rfl, rfl⟩ rfl rfl rfl rfl rfl (by kernel_rfl) Tryz.func4 (by kernel_rfl)
    (of_decide_eq_true (by kernel_rfl)) (by unfold Func.isWrapper; first | (rw [if_pos (by decide +kernel)]; kernel_rfl) | (rw [if_neg (by decide +kernel)]; exact ⟨rfl, rfl⟩))
    (fun os started H enc _ => lifted os started H enc)

theorem card_holds : Claim7.holds Tryz.pinned (.plain (OpenSpec.ofChange Rows.eventFieldsSpec)) Rows.eventFieldsCard :=
  Claim7.holds_tied_plain_at .later [] [.data, .data, .data, .data, .data, .pinned] true (true, "d50d46794dfd6a6e8d719ab91cbf219a96774fffd2a096d0084ef2a96cd3d6a3") false
    over (fun _ h => by cases h) (by kernel_rfl) (fun _ h => by cases h) eventFields_row_tie rfl ⟨rfl, rfl⟩ (by kernel_rfl) rfl
    (fun f fn hf hfn => by
      obtain rfl : f = 4 := Option.some.inj ((show Tryz.prog.funcNamed "newsstand/newsstandlaw14.EventFields" = some 4 by kernel_rfl).symm.trans hf) |>.symm
      obtain rfl : fn = Tryz.f4 := (Option.some.inj (Tryz.func4.symm.trans hfn)).symm
      exact ⟨by kernel_rfl, fun j t ht => by
        rw [Tryz.params4] at ht
        have hm : t ∈ [23, 3] := by simpa using Array.mem_of_getElem? ht
        have hall : ([23, 3].all fun u => !Tryz.prog.wantsStandIn u) = true := by kernel_rfl
        exact (show Tryz.prog.wantsStandIn t = false by simpa using List.all_eq_true.1 hall t hm)⟩)
    (by kernel_rfl)
theorem proved : Rows.EventFieldsCardSaid := card_holds
#print axioms proved
end Go.Proofs.YtelhdkidnhfnbabGreatDoor.eventFields
