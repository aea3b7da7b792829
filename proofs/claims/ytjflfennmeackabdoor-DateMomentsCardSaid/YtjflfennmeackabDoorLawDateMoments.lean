/-
  For every date, also one that may not be, the law DateMoments answers true, in a memory whose table internal/strconv.uint64pow10 is as the text of the library lays it (the card ties that); no other condition.
-/
import Derived.Test.YtjflfennmeackabDoorRows
import Derived.Test.YtjflfennmeackabDoorCards
import Derived.Test.YtjflfennmeackabDoorTie
import Derived.Test.YtjflfennmeackabDoorDDoor
import Derived.LaidMore
import Derived.Stop.Joined
import Derived.SevenTiedAt
import Derived.Test.YtjflfennmeackabDoorDLawMom
import Derived.Test.YtjflfennmeackabDoorDInts
import Derived.WalkKit
import Derived.ProofKit
import Derived.OpenShut
import Derived.ShutString
import Derived.ChangeOld
import Derived.Below
namespace Go.Proofs.YtjflfennmeackabDoor.dateMoments
open Go.ChangeShapes Go.WideShapes Go.ChangeAt Go.RowKit Go.WideMaps Go.WideElems
open Go.ChangeMaps (open_string shut_string)
set_option linter.unusedVariables false      -- a walk need not use every 'w<i>' (that an integer argument fits its kind)

theorem own : ownKnob Tryd.prog.godebug = none := by kernel_rfl

theorem laidOut : laidOutB Tryd.prog = true := by kernel_rfl

/-- A date that came in is six integers. -/
theorem six {H : Type} {enc : TypeId × Value → H} {W : World} {base : Nat} {v : Value} {x : DataW H} {p : List MemPlace} (hv : Value.okWide Tryd.prog W .any base 23 v) (ht : DataW.Trod enc Tryd.prog W 0 (fun _ => true) true 23 v x p) :
    ∃ y m d h mi s : Int, v = .agg #[.int .i64 y, .int .i64 m, .int .i64 d, .int .i64 h, .int .i64 mi, .int .i64 s] := by
  obtain ⟨⟨l⟩, rfl, hsz⟩ := okWide_struct Tryd.underlying23 hv
  have hlen : l.length = 6 := hsz.trans (show Tryd.prog.cellsOf 23 = 6 by kernel_rfl)
  obtain ⟨fuel, hf⟩ := ht
  obtain ⟨xs, n, _, _, _, hxl, hg⟩ := DataW.trod_struct Tryd.underlying23 hf
  have hx6 : xs.length = 6 := hxl
  have c1 : Tryd.prog.cellsOf 3 = 1 := by kernel_rfl
  have g0 := hg 0 _ rfl
  rw [List.getElem?_eq_getElem (show 0 < xs.length by omega)] at g0
  obtain ⟨a0, e0, _⟩ := DataW.trod_int Tryd.underlying3 g0
  have g1 := hg 1 _ rfl
  rw [List.getElem?_eq_getElem (show 1 < xs.length by omega)] at g1
  obtain ⟨a1, e1, _⟩ := DataW.trod_int Tryd.underlying3 g1
  have g2 := hg 2 _ rfl
  rw [List.getElem?_eq_getElem (show 2 < xs.length by omega)] at g2
  obtain ⟨a2, e2, _⟩ := DataW.trod_int Tryd.underlying3 g2
  have g3 := hg 3 _ rfl
  rw [List.getElem?_eq_getElem (show 3 < xs.length by omega)] at g3
  obtain ⟨a3, e3, _⟩ := DataW.trod_int Tryd.underlying3 g3
  have g4 := hg 4 _ rfl
  rw [List.getElem?_eq_getElem (show 4 < xs.length by omega)] at g4
  obtain ⟨a4, e4, _⟩ := DataW.trod_int Tryd.underlying3 g4
  have g5 := hg 5 _ rfl
  rw [List.getElem?_eq_getElem (show 5 < xs.length by omega)] at g5
  obtain ⟨a5, e5, _⟩ := DataW.trod_int Tryd.underlying3 g5
  match l, hlen with
  | [b0, b1, b2, b3, b4, b5], _ =>
    have q0 : ([b0, b1, b2, b3, b4, b5].drop 0).take (Tryd.prog.cellsOf 3) = [.int .i64 a0] := e0
    rw [c1] at q0
    have r0 : b0 = .int .i64 a0 := by simpa using q0
    have q1 : ([b0, b1, b2, b3, b4, b5].drop 1).take (Tryd.prog.cellsOf 3) = [.int .i64 a1] := e1
    rw [c1] at q1
    have r1 : b1 = .int .i64 a1 := by simpa using q1
    have q2 : ([b0, b1, b2, b3, b4, b5].drop 2).take (Tryd.prog.cellsOf 3) = [.int .i64 a2] := e2
    rw [c1] at q2
    have r2 : b2 = .int .i64 a2 := by simpa using q2
    have q3 : ([b0, b1, b2, b3, b4, b5].drop 3).take (Tryd.prog.cellsOf 3) = [.int .i64 a3] := e3
    rw [c1] at q3
    have r3 : b3 = .int .i64 a3 := by simpa using q3
    have q4 : ([b0, b1, b2, b3, b4, b5].drop 4).take (Tryd.prog.cellsOf 3) = [.int .i64 a4] := e4
    rw [c1] at q4
    have r4 : b4 = .int .i64 a4 := by simpa using q4
    have q5 : ([b0, b1, b2, b3, b4, b5].drop 5).take (Tryd.prog.cellsOf 3) = [.int .i64 a5] := e5
    rw [c1] at q5
    have r5 : b5 = .int .i64 a5 := by simpa using q5
    subst r0 r1 r2 r3 r4 r5
    exact ⟨a0, a1, a2, a3, a4, a5, rfl⟩

theorem walk (y m d h mi s : Int) (w : World) (hT : Tab w) :
    Calls Tryd.prog 3 #[.agg #[.int .i64 y, .int .i64 m, .int .i64 d, .int .i64 h, .int .i64 mi, .int .i64 s]] w fun e w' => e = .returned (.bool true) ∧ Below w.heap.size w w' := by
  exact dmom_any y m d h mi s w hT

set_option maxRecDepth 100000 in
theorem lifted (os : Os) (started : os.Started) (H : Type) (enc : TypeId × Value → H) :
    ReturnsInHanded {} Tryd.checked os 3 .any (fun w args => (Rows.dateMomentsSpec.pre enc Tryd.prog Tryd.f3 [] false w args ∧ laidMetH Tryd.prog listed w) ∧ sizedMet enc Tryd.prog Tryd.f3 (OpenSpec.ofChange Rows.dateMomentsSpec) false w args)
      (Rows.dateMomentsSpec.post enc Tryd.prog Tryd.f3 false true false false) := by
  refine returnsInHanded_of_change_and (C := Tryd.checked) (X := fun w _ => laidMetH Tryd.prog listed w) (fun _ _ _ hh h => h.of_heap hh) own started (by kernel_rfl) Tryd.func3
    (ChangeSpec.witness_shaped (enc := enc) (C := Tryd.checked) (os := os) (X := fun w _ => laidMetH Tryd.prog listed w) false (World.doorLaid Tryd.prog 400 os) #[.agg #[.int .i64 0, .int .i64 0, .int .i64 0, .int .i64 0, .int .i64 0, .int .i64 0]] 8 rfl (World.shaped_of_RefB (by kernel_rfl) (by kernel_rfl)) (by kernel_rfl) (by kernel_rfl) (by kernel_rfl) (door_met os _)) ?_
  intro W base args ds gs before hval0 hW _ _ hL _
  have hval : ∀ (j : Nat) t v, Tryd.f3.params[j]? = some t → args[j]? = some v → Value.okWide Tryd.prog W .any base t v := hval0
  have hW' := hW
  obtain ⟨p, q, hA0, hV, rfl, hfz, hnd⟩ := hW
  have hA : DataW.TrodAll enc Tryd.prog W 0 (fun _ => true) true Tryd.f3.params.toList args.toList ds p := hA0
  rw [Tryd.params3] at hA hval
  obtain ⟨v0, vs0, d0, ds0, p0, q0, hargs, rfl, rfl, h0, r0⟩ := trodAll_cons hA
  obtain ⟨rfl, rfl, rfl⟩ := trodAll_nil r0
  obtain rfl : args = #[v0] := by cases args; simp_all
  obtain ⟨rfl, rfl⟩ := trodVars_none hV
  obtain ⟨y, m, d, h, mi, s, rfl⟩ := six (hval 0 23 v0 rfl rfl) h0
  have k0 := h0
  have lt0 : ∀ x ∈ p0, x.block < W.heap.size := by obtain ⟨m, hm⟩ := k0; exact DataW.trod_lt m _ _ _ hm
  clear hA0 hval0
  refine (walk y m d h mi s W (tab_of hL)).mono fun e W' ⟨he, bel⟩ => ?_
  subst he
  exact ⟨_, rfl, _, _, _, [], _, [], hW', trodAll_mk1 (shut_bool Tryd.underlying4 _), (trodAll_cons_mk (Below.trod laidOut (by kernel_rfl) (of_decide_eq_true (by kernel_rfl)) k0 bel lt0) trodAll_mk0), rfl, bel.frame _, fun h => by cases h⟩

theorem over : Rows.dateMomentsRow.holds Tryd.pinned (OpenSpec.ofChange Rows.dateMomentsSpec) :=
  OpenClaim.holds_of_wide 3 Tryd.f3 rfl rfl rfl rfl rfl rfl rfl ⟨rfl, rfl, rfl, rfl, rfl⟩ rfl rfl rfl rfl rfl (by kernel_rfl) Tryd.func3 (by kernel_rfl)
    (of_decide_eq_true (by kernel_rfl)) (by unfold Func.isWrapper; first | (rw [if_pos (by decide +kernel)]; kernel_rfl) | (rw [if_neg (by decide +kernel)]; exact ⟨rfl, rfl⟩))
    (fun os started H enc _ => lifted os started H enc)

theorem card_holds : Claim7.holds Tryd.pinned (.plain (OpenSpec.ofChange Rows.dateMomentsSpec)) Rows.dateMomentsCard :=
  Claim7.holds_tied_plain_at .later [] [.data, .data, .data] true (true, "9ae76612f51a82b078ea6d15569e36faa6dc5bad72ac8fe860a026757d18c824") false
    over (fun _ h => by cases h) (by kernel_rfl) (fun _ h => by cases h) dateMoments_row_tie rfl ⟨rfl, rfl⟩ (by kernel_rfl) rfl
    (fun f fn hf hfn => by
      obtain rfl : f = 3 := Option.some.inj ((show Tryd.prog.funcNamed "newsstand/newsstandlaw04.DateMoments" = some 3 by kernel_rfl).symm.trans hf) |>.symm
      obtain rfl : fn = Tryd.f3 := (Option.some.inj (Tryd.func3.symm.trans hfn)).symm
      exact ⟨by kernel_rfl, fun j t ht => by
        rw [Tryd.params3] at ht
        have hm : t ∈ [23] := by simpa using Array.mem_of_getElem? ht
        have hall : ([23].all fun u => !Tryd.prog.wantsStandIn u) = true := by kernel_rfl
        exact (show Tryd.prog.wantsStandIn t = false by simpa using List.all_eq_true.1 hall t hm)⟩)
    (by kernel_rfl)
theorem proved : Rows.DateMomentsCardSaid := card_holds
#print axioms proved
end Go.Proofs.YtjflfennmeackabDoor.dateMoments
