/-
  The document's Name and Large of events; events that came in, opened; whether two are the same. No condition.
-/
import Derived.Test.YtelhdkidnhfnbabGreatDoorVLives
import Derived.Test.YtelhdkidnhfnbabGreatDoorVInj
import Derived.Test.YtelhdkidnhfnbabGreatDoorIsRow
import Derived.OpenShut
import Derived.ShutString
import Derived.ChangeOld
import Derived.Deep.Fields
import Derived.ChangeSame
import Derived.Laws.StructEq
namespace Go.Proofs.YtelhdkidnhfnbabGreatDoor
open Go.RowKit Go.ChangeShapes Go.WideShapes

set_option maxRecDepth 100000 in
theorem nm_cell (w : World) (m : Nat) (hm : m < namesL.length) : (w.alloc (.cells #[.string ⟨#[102, 111, 108, 100, 101, 114]⟩, .string ⟨#[117, 110, 102, 111, 108, 100, 101, 114]⟩, .string ⟨#[102, 101, 101, 100]⟩, .string ⟨#[117, 110, 102, 101, 101, 100]⟩, .string ⟨#[116, 105, 116, 108, 101]⟩, .string ⟨#[109, 111, 118, 101]⟩, .string ⟨#[105, 116, 101, 109]⟩, .string ⟨#[114, 101, 97, 100]⟩, .string ⟨#[115, 116, 97, 114]⟩, .string ⟨#[116, 97, 103]⟩, .string ⟨#[115, 101, 97, 114, 99, 104]⟩, .string ⟨#[117, 110, 115, 101, 97, 114, 99, 104]⟩, .string ⟨#[99, 108, 111, 99, 107]⟩] 9)).cell? ⟨w.heap.size, m, none⟩ = some (.string (str namesL[m])) := by
  have h := (Blk.fresh w 9 #[.string ⟨#[102, 111, 108, 100, 101, 114]⟩, .string ⟨#[117, 110, 102, 111, 108, 100, 101, 114]⟩, .string ⟨#[102, 101, 101, 100]⟩, .string ⟨#[117, 110, 102, 101, 101, 100]⟩, .string ⟨#[116, 105, 116, 108, 101]⟩, .string ⟨#[109, 111, 118, 101]⟩, .string ⟨#[105, 116, 101, 109]⟩, .string ⟨#[114, 101, 97, 100]⟩, .string ⟨#[115, 116, 97, 114]⟩, .string ⟨#[116, 97, 103]⟩, .string ⟨#[115, 101, 97, 114, 99, 104]⟩, .string ⟨#[117, 110, 115, 101, 97, 114, 99, 104]⟩, .string ⟨#[99, 108, 111, 99, 107]⟩]).cell m
  rw [h]
  have hm13 : m < 13 := hm
  have hh : m = 0 ∨ m = 1 ∨ m = 2 ∨ m = 3 ∨ m = 4 ∨ m = 5 ∨ m = 6 ∨ m = 7 ∨ m = 8 ∨ m = 9 ∨ m = 10 ∨ m = 11 ∨ m = 12 := by omega
  rcases hh with rfl | rfl | rfl | rfl | rfl | rfl | rfl | rfl | rfl | rfl | rfl | rfl | rfl <;> rfl
set_option maxHeartbeats 1600000 in
set_option maxRecDepth 100000 in
theorem rname_any (k : Int) (w : World) : Calls Tryz.prog 12 #[.int .i64 k] w (Made w (.string (str (nameOf k)))) := by
  have HB : Hid (Below w.heap.size w (w.alloc (.cells #[.string ⟨#[102, 111, 108, 100, 101, 114]⟩, .string ⟨#[117, 110, 102, 111, 108, 100, 101, 114]⟩, .string ⟨#[102, 101, 101, 100]⟩, .string ⟨#[117, 110, 102, 101, 101, 100]⟩, .string ⟨#[116, 105, 116, 108, 101]⟩, .string ⟨#[109, 111, 118, 101]⟩, .string ⟨#[105, 116, 101, 109]⟩, .string ⟨#[114, 101, 97, 100]⟩, .string ⟨#[115, 116, 97, 114]⟩, .string ⟨#[116, 97, 103]⟩, .string ⟨#[115, 101, 97, 114, 99, 104]⟩, .string ⟨#[117, 110, 115, 101, 97, 114, 99, 104]⟩, .string ⟨#[99, 108, 111, 99, 107]⟩] 9))) := Lib.hid ((Below.refl _ _).alloc (Nat.le_refl _) _)
  unfold nameOf
  by_cases h1 : 1 ≤ k
  · by_cases h2 : k ≤ 13
    · rw [if_pos ⟨h1, h2⟩]
      obtain ⟨m, rfl⟩ : ∃ m : Nat, k = ((m : Int) + 1) := ⟨(k - 1).toNat, by omega⟩
      have hm : m < 13 := by omega
      have hz := nm_cell w m hm
      have e1 : ((m : Int) + 1).toNat - 1 = m := by omega
      have e2 : namesL.getD m [] = namesL[m]'hm := by rw [List.getD_eq_getElem?_getD, List.getElem?_eq_getElem hm]; rfl
      rw [e1, e2]
      generalize namesL[m]'hm = x at *
      have hmI : (m : Int) < 13 := by omega
      have d1 : decide ((m : Int) + 1 < 1) = false := decide_eq_false (by omega)
      have d2 : decide ((13 : Int) < (m : Int) + 1) = false := decide_eq_false (by omega)
      have d3 : (m : Int) + 1 - 1 = (m : Int) := by omega
      have d4 : IntKind.i64.wrap (m : Int) = (m : Int) := IntWalk.i64_in _ (by omega)
      clear e1 e2 h1 h2
      go_enter Tryz.func12, Tryz.ntmps12
      go_wp2_with fail
      go_ret
      exact ⟨rfl, HB.out⟩
    · rw [if_neg fun h => h2 h.2]
      have d2 : decide ((13 : Int) < k) = true := decide_eq_true (by omega)
      have d1 : decide (k < 1) = false := decide_eq_false (by omega)
      clear h1 h2
      go_enter Tryz.func12, Tryz.ntmps12
      go_wp2_with fail
      go_ret
      exact ⟨rfl, HB.out⟩
  · rw [if_neg fun h => h1 h.1]
    have d1 : decide (k < 1) = true := decide_eq_true (by omega)
    clear h1
    go_enter Tryz.func12, Tryz.ntmps12
    go_wp2_with fail
    go_ret
    exact ⟨rfl, HB.out⟩
def largeE (s t u : List UInt8) : Bool := (decide (1000 < s.length) || decide (1000 < t.length)) || decide (1000 < u.length)
set_option maxHeartbeats 1600000 in
theorem rlarge_any {k a b n : Int} {s t u : List UInt8} (w : World) : Calls Tryz.prog 5 #[.agg #[.int .i64 k, .int .i64 a, .int .i64 b, .int .i64 n, .string (str s), .string (str t), .string (str u)]] w (Made w (.bool (largeE s t u))) := by
  have HB : Hid (Below w.heap.size w (w.alloc (.cells #[.int .i64 k, .int .i64 a, .int .i64 b, .int .i64 n, .string (str s), .string (str t), .string (str u)] 23))) := Lib.hid ((Below.refl _ _).alloc (Nat.le_refl _) _)
  unfold largeE
  by_cases h1 : 1000 < s.length
  · have d1 : decide ((1000 : Int) < (s.length : Int)) = true := decide_eq_true (by omega)
    rw [decide_eq_true h1, Bool.true_or, Bool.true_or]
    clear h1
    go_enter Tryz.func5, Tryz.ntmps5
    go_wp2_with fail
    go_ret
    exact ⟨rfl, HB.out⟩
  · have d1 : decide ((1000 : Int) < (s.length : Int)) = false := decide_eq_false (by omega)
    rw [decide_eq_false h1, Bool.false_or]
    by_cases h2 : 1000 < t.length
    · have d2 : decide ((1000 : Int) < (t.length : Int)) = true := decide_eq_true (by omega)
      rw [decide_eq_true h2, Bool.true_or]
      clear h1 h2
      go_enter Tryz.func5, Tryz.ntmps5
      go_wp2_with fail
      go_ret
      exact ⟨rfl, HB.out⟩
    · have d2 : decide ((1000 : Int) < (t.length : Int)) = false := decide_eq_false (by omega)
      rw [decide_eq_false h2, Bool.false_or]
      have d3 : decide ((1000 : Int) < (u.length : Int)) = decide (1000 < u.length) := decide_eq_decide.2 (by omega)
      generalize decide (1000 < u.length) = q at *
      clear h1 h2
      go_enter Tryz.func5, Tryz.ntmps5
      go_wp2_with fail
      go_ret
      exact ⟨rfl, HB.out⟩
/-- An event whose fields are of their types' shapes. -/
def RdEv (_w : World) (v : Value) : Prop := ∃ (k a b n : Int) (s t u : List UInt8), v = .agg #[.int .i64 k, .int .i64 a, .int .i64 b, .int .i64 n, .string (str s), .string (str t), .string (str u)] ∧ SmI k ∧ SmI a ∧ SmI b ∧ SmI n
set_option maxRecDepth 100000 in
theorem ev_open {H : Type} {enc : TypeId × Value → H} {W : World} {base : Nat} {v : Value} {x : DataW H} {p : List MemPlace} (hv : Value.okWide Tryz.prog W .any base 23 v) (ht : DataW.Trod enc Tryz.prog W 0 (fun _ => true) true 23 v x p) : RdEv W v := by
  obtain ⟨⟨l⟩, rfl, hsz⟩ := okWide_struct Tryz.underlying23 hv
  have hlen : l.length = 7 := hsz.trans (show Tryz.prog.cellsOf 23 = 7 by kernel_rfl)
  obtain ⟨fuel, hf⟩ := ht
  obtain ⟨xs, n, _, _, _, hxl, hg⟩ := DataW.trod_struct Tryz.underlying23 hf
  have hx7 : xs.length = 7 := hxl
  have ci : Tryz.prog.cellsOf 3 = 1 := by kernel_rfl
  have cs : Tryz.prog.cellsOf 9 = 1 := by kernel_rfl
  match l, hlen with
  | [b0, b1, b2, b3, b4, b5, b6], _ =>
    have g0 := hg 0 _ rfl
    have g1 := hg 1 _ rfl
    have g2 := hg 2 _ rfl
    have g3 := hg 3 _ rfl
    have g4 := hg 4 _ rfl
    have g5 := hg 5 _ rfl
    have g6 := hg 6 _ rfl
    rw [List.getElem?_eq_getElem (by omega)] at g0 g1 g2 g3 g4 g5 g6
    obtain ⟨a0, e0, _, w0⟩ := DataW.trod_int Tryz.underlying3 g0
    obtain ⟨a1, e1, _, w1⟩ := DataW.trod_int Tryz.underlying3 g1
    obtain ⟨a2, e2, _, w2⟩ := DataW.trod_int Tryz.underlying3 g2
    obtain ⟨a3, e3, _, w3⟩ := DataW.trod_int Tryz.underlying3 g3
    obtain ⟨a4, e4, _⟩ := DataW.trod_string Tryz.underlying9 g4
    obtain ⟨a5, e5, _⟩ := DataW.trod_string Tryz.underlying9 g5
    obtain ⟨a6, e6, _⟩ := DataW.trod_string Tryz.underlying9 g6
    have q0 : ([b0, b1, b2, b3, b4, b5, b6].drop 0).take (Tryz.prog.cellsOf 3) = [.int .i64 a0] := e0
    have q1 : ([b0, b1, b2, b3, b4, b5, b6].drop 1).take (Tryz.prog.cellsOf 3) = [.int .i64 a1] := e1
    have q2 : ([b0, b1, b2, b3, b4, b5, b6].drop 2).take (Tryz.prog.cellsOf 3) = [.int .i64 a2] := e2
    have q3 : ([b0, b1, b2, b3, b4, b5, b6].drop 3).take (Tryz.prog.cellsOf 3) = [.int .i64 a3] := e3
    have q4 : ([b0, b1, b2, b3, b4, b5, b6].drop 4).take (Tryz.prog.cellsOf 9) = [.string a4] := e4
    have q5 : ([b0, b1, b2, b3, b4, b5, b6].drop 5).take (Tryz.prog.cellsOf 9) = [.string a5] := e5
    have q6 : ([b0, b1, b2, b3, b4, b5, b6].drop 6).take (Tryz.prog.cellsOf 9) = [.string a6] := e6
    rw [ci] at q0 q1 q2 q3
    rw [cs] at q4 q5 q6
    have r0 : b0 = .int .i64 a0 := by simpa using q0
    have r1 : b1 = .int .i64 a1 := by simpa using q1
    have r2 : b2 = .int .i64 a2 := by simpa using q2
    have r3 : b3 = .int .i64 a3 := by simpa using q3
    have r4 : b4 = .string a4 := by simpa using q4
    have r5 : b5 = .string a5 := by simpa using q5
    have r6 : b6 = .string a6 := by simpa using q6
    subst r0 r1 r2 r3 r4 r5 r6
    exact ⟨a0, a1, a2, a3, a4.data.toList, a5.data.toList, a6.data.toList, by rw [str_of, str_of, str_of], wf_i64 w0, wf_i64 w1, wf_i64 w2, wf_i64 w3⟩
theorem ev_und : Tryz.prog.underlying 23 = some (.struct (Tryz.prog.fieldsOf 23)) := by kernel_rfl
theorem ev_held : Tryz.prog.stoodInHeld 23 = false := by kernel_rfl
theorem str_beqV (a c : List UInt8) : ((str a).toList == (str c).toList) = (a == c) := by
  rw [ByteArray.toList_eq, ByteArray.toList_eq, str_data, str_data]
theorem ev_eq_yes (k a b n : Int) (s t u : List UInt8) (W : World) : (Op.equalIn 10000 23 (.agg #[.int .i64 k, .int .i64 a, .int .i64 b, .int .i64 n, .string (str s), .string (str t), .string (str u)]) (.agg #[.int .i64 k, .int .i64 a, .int .i64 b, .int .i64 n, .string (str s), .string (str t), .string (str u)])).run Tryz.prog W = .ok true W := by
  rw [run_equalIn_struct (P := Tryz.prog) W 9999 23 _ _ ev_und ev_held]
  have h9 : Tryz.prog.underlying 9 = some .string := Tryz.underlying9
  have e1 := fun (c d : List UInt8) W => run_equalIn_string (P := Tryz.prog) W 9998 9 (str c) (str d) h9
  have h8 := Tryz.underlying3
  simp only [str_beqV] at e1
  simp only [Program.fieldsOf, Tryz.underlying23, Op.eqFields]
  simp [go_sem, e1, h8]
theorem ev_eq_no {k a b n k2 a2 b2 n2 : Int} {s t u s2 t2 u2 : List UInt8} (h : ¬ (k = k2 ∧ a = a2 ∧ b = b2 ∧ n = n2 ∧ s = s2 ∧ t = t2 ∧ u = u2)) (W : World) : (Op.equalIn 10000 23 (.agg #[.int .i64 k, .int .i64 a, .int .i64 b, .int .i64 n, .string (str s), .string (str t), .string (str u)]) (.agg #[.int .i64 k2, .int .i64 a2, .int .i64 b2, .int .i64 n2, .string (str s2), .string (str t2), .string (str u2)])).run Tryz.prog W = .ok false W := by
  rw [run_equalIn_struct (P := Tryz.prog) W 9999 23 _ _ ev_und ev_held]
  have h9 : Tryz.prog.underlying 9 = some .string := Tryz.underlying9
  have e1 := fun (c d : List UInt8) W => run_equalIn_string (P := Tryz.prog) W 9998 9 (str c) (str d) h9
  have h8 := Tryz.underlying3
  simp only [str_beqV] at e1
  simp only [Program.fieldsOf, Tryz.underlying23, Op.eqFields]
  simp [go_sem, e1, h8]
  intro h1 h2 h3 h4 h5 h6 h7
  exact h ⟨h1, h2, h3, h4, h5, h6, h7⟩
end Go.Proofs.YtelhdkidnhfnbabGreatDoor
