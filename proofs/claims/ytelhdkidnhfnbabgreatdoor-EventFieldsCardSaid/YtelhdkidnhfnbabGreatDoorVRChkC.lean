/-
  The document's Check: kinds 4, 5, 6.
-/
import Derived.Test.YtelhdkidnhfnbabGreatDoorVRChk
namespace Go.Proofs.YtelhdkidnhfnbabGreatDoor
open Go.RowKit

set_option maxHeartbeats 12800000 in
set_option maxRecDepth 100000 in
theorem rchk_4_002 {a : Int} {s t u : List UInt8} (w : World) {ia q : Bool} (KIA : ∀ W, Calls Tryz.prog 20 #[.int .i64 a] W (Pure W (.bool ia))) (hq : ∀ W, (Op.equalIn 10000 23 (.agg #[.int .i64 4, .int .i64 a, .int .i64 0, .int .i64 0, .string ⟨#[]⟩, .string ⟨#[]⟩, .string ⟨#[]⟩]) (.agg #[.int .i64 4, .int .i64 a, .int .i64 0, .int .i64 0, .string (str s), .string (str t), .string (str u)])).run Tryz.prog W = .ok q W) : Calls Tryz.prog 7 #[.agg #[.int .i64 4, .int .i64 a, .int .i64 0, .int .i64 0, .string (str s), .string (str t), .string (str u)]] w (Made w (.bool (ia && q))) := by
  have ST0 : Hid (St w #[.int .i64 4, .int .i64 a, .int .i64 0, .int .i64 0, .string (str s), .string (str t), .string (str u)] #[.int .i64 4, .int .i64 a, .int .i64 0, .int .i64 0, .string ⟨#[]⟩, .string ⟨#[]⟩, .string ⟨#[]⟩] _) := Lib.hid (St.start w #[.int .i64 4, .int .i64 a, .int .i64 0, .int .i64 0, .string (str s), .string (str t), .string (str u)] #[.int .i64 4, .int .i64 a, .int .i64 0, .int .i64 0, .string ⟨#[]⟩, .string ⟨#[]⟩, .string ⟨#[]⟩])
  have HIA := Lib.hid KIA
  clear KIA
  go_enter Tryz.func7, Tryz.ntmps7
  go_wp2_with (first | (go_at_call 20; refine (HIA.out _).mono ?_; rintro e v ⟨rfl, rfl⟩; have MKA : Hid True := Lib.hid trivial; cases ia))
  all_goals go_ret
  all_goals first
    | exact ⟨rfl, ST0.out.1⟩
set_option maxHeartbeats 12800000 in
set_option maxRecDepth 100000 in
theorem rchk_4_012 {a b : Int} {s t u : List UInt8} (w : World) {ia ib q : Bool} (cb : (b == 0) = false) (KIA : ∀ W, Calls Tryz.prog 20 #[.int .i64 a] W (Pure W (.bool ia))) (KIB : ∀ W, Calls Tryz.prog 20 #[.int .i64 b] W (Pure W (.bool ib))) (hq : ∀ W, (Op.equalIn 10000 23 (.agg #[.int .i64 4, .int .i64 a, .int .i64 0, .int .i64 0, .string ⟨#[]⟩, .string ⟨#[]⟩, .string ⟨#[]⟩]) (.agg #[.int .i64 4, .int .i64 a, .int .i64 b, .int .i64 0, .string (str s), .string (str t), .string (str u)])).run Tryz.prog W = .ok q W) : Calls Tryz.prog 7 #[.agg #[.int .i64 4, .int .i64 a, .int .i64 b, .int .i64 0, .string (str s), .string (str t), .string (str u)]] w (Made w (.bool (ia && q))) := by
  have ST0 : Hid (St w #[.int .i64 4, .int .i64 a, .int .i64 b, .int .i64 0, .string (str s), .string (str t), .string (str u)] #[.int .i64 4, .int .i64 a, .int .i64 0, .int .i64 0, .string ⟨#[]⟩, .string ⟨#[]⟩, .string ⟨#[]⟩] _) := Lib.hid (St.start w #[.int .i64 4, .int .i64 a, .int .i64 b, .int .i64 0, .string (str s), .string (str t), .string (str u)] #[.int .i64 4, .int .i64 a, .int .i64 0, .int .i64 0, .string ⟨#[]⟩, .string ⟨#[]⟩, .string ⟨#[]⟩])
  have HIA := Lib.hid KIA
  have HIB := Lib.hid KIB
  clear KIA KIB
  go_enter Tryz.func7, Tryz.ntmps7
  go_wp2_with (first | (go_at_call 20; have mm := MKA.out; clear mm; refine (HIB.out _).mono ?_; rintro e v ⟨rfl, rfl⟩) | (go_at_call 20; refine (HIA.out _).mono ?_; rintro e v ⟨rfl, rfl⟩; have MKA : Hid True := Lib.hid trivial; cases ia))
  all_goals go_ret
  all_goals first
    | exact ⟨rfl, ST0.out.1⟩
set_option maxHeartbeats 12800000 in
set_option maxRecDepth 100000 in
theorem rchk_4_102 {a : Int} {s t u : List UInt8} (w : World) {ia q : Bool} (KIA : ∀ W, Calls Tryz.prog 20 #[.int .i64 a] W (Pure W (.bool ia))) (hq : ∀ W, (Op.equalIn 10000 23 (.agg #[.int .i64 4, .int .i64 a, .int .i64 0, .int .i64 0, .string ⟨#[]⟩, .string ⟨#[]⟩, .string ⟨#[]⟩]) (.agg #[.int .i64 4, .int .i64 a, .int .i64 0, .int .i64 1, .string (str s), .string (str t), .string (str u)])).run Tryz.prog W = .ok q W) : Calls Tryz.prog 7 #[.agg #[.int .i64 4, .int .i64 a, .int .i64 0, .int .i64 1, .string (str s), .string (str t), .string (str u)]] w (Made w (.bool (ia && q))) := by
  have ST0 : Hid (St w #[.int .i64 4, .int .i64 a, .int .i64 0, .int .i64 1, .string (str s), .string (str t), .string (str u)] #[.int .i64 4, .int .i64 a, .int .i64 0, .int .i64 0, .string ⟨#[]⟩, .string ⟨#[]⟩, .string ⟨#[]⟩] _) := Lib.hid (St.start w #[.int .i64 4, .int .i64 a, .int .i64 0, .int .i64 1, .string (str s), .string (str t), .string (str u)] #[.int .i64 4, .int .i64 a, .int .i64 0, .int .i64 0, .string ⟨#[]⟩, .string ⟨#[]⟩, .string ⟨#[]⟩])
  have HIA := Lib.hid KIA
  clear KIA
  go_enter Tryz.func7, Tryz.ntmps7
  go_wp2_with (first | (go_at_call 20; refine (HIA.out _).mono ?_; rintro e v ⟨rfl, rfl⟩; have MKA : Hid True := Lib.hid trivial; cases ia))
  all_goals go_ret
  all_goals first
    | exact ⟨rfl, ST0.out.1⟩
set_option maxHeartbeats 12800000 in
set_option maxRecDepth 100000 in
theorem rchk_4_112 {a b : Int} {s t u : List UInt8} (w : World) {ia ib q : Bool} (cb : (b == 0) = false) (KIA : ∀ W, Calls Tryz.prog 20 #[.int .i64 a] W (Pure W (.bool ia))) (KIB : ∀ W, Calls Tryz.prog 20 #[.int .i64 b] W (Pure W (.bool ib))) (hq : ∀ W, (Op.equalIn 10000 23 (.agg #[.int .i64 4, .int .i64 a, .int .i64 0, .int .i64 0, .string ⟨#[]⟩, .string ⟨#[]⟩, .string ⟨#[]⟩]) (.agg #[.int .i64 4, .int .i64 a, .int .i64 b, .int .i64 1, .string (str s), .string (str t), .string (str u)])).run Tryz.prog W = .ok q W) : Calls Tryz.prog 7 #[.agg #[.int .i64 4, .int .i64 a, .int .i64 b, .int .i64 1, .string (str s), .string (str t), .string (str u)]] w (Made w (.bool (ia && q))) := by
  have ST0 : Hid (St w #[.int .i64 4, .int .i64 a, .int .i64 b, .int .i64 1, .string (str s), .string (str t), .string (str u)] #[.int .i64 4, .int .i64 a, .int .i64 0, .int .i64 0, .string ⟨#[]⟩, .string ⟨#[]⟩, .string ⟨#[]⟩] _) := Lib.hid (St.start w #[.int .i64 4, .int .i64 a, .int .i64 b, .int .i64 1, .string (str s), .string (str t), .string (str u)] #[.int .i64 4, .int .i64 a, .int .i64 0, .int .i64 0, .string ⟨#[]⟩, .string ⟨#[]⟩, .string ⟨#[]⟩])
  have HIA := Lib.hid KIA
  have HIB := Lib.hid KIB
  clear KIA KIB
  go_enter Tryz.func7, Tryz.ntmps7
  go_wp2_with (first | (go_at_call 20; have mm := MKA.out; clear mm; refine (HIB.out _).mono ?_; rintro e v ⟨rfl, rfl⟩) | (go_at_call 20; refine (HIA.out _).mono ?_; rintro e v ⟨rfl, rfl⟩; have MKA : Hid True := Lib.hid trivial; cases ia))
  all_goals go_ret
  all_goals first
    | exact ⟨rfl, ST0.out.1⟩
set_option maxHeartbeats 12800000 in
set_option maxRecDepth 100000 in
theorem rchk_4_202 {a n : Int} {s t u : List UInt8} (w : World) {ia q : Bool} (cn0 : (n == 0) = false) (cn1 : (n == 1) = false) (KIA : ∀ W, Calls Tryz.prog 20 #[.int .i64 a] W (Pure W (.bool ia))) (hq : ∀ W, (Op.equalIn 10000 23 (.agg #[.int .i64 4, .int .i64 a, .int .i64 0, .int .i64 0, .string ⟨#[]⟩, .string ⟨#[]⟩, .string ⟨#[]⟩]) (.agg #[.int .i64 4, .int .i64 a, .int .i64 0, .int .i64 n, .string (str s), .string (str t), .string (str u)])).run Tryz.prog W = .ok q W) : Calls Tryz.prog 7 #[.agg #[.int .i64 4, .int .i64 a, .int .i64 0, .int .i64 n, .string (str s), .string (str t), .string (str u)]] w (Made w (.bool (ia && q))) := by
  have ST0 : Hid (St w #[.int .i64 4, .int .i64 a, .int .i64 0, .int .i64 n, .string (str s), .string (str t), .string (str u)] #[.int .i64 4, .int .i64 a, .int .i64 0, .int .i64 0, .string ⟨#[]⟩, .string ⟨#[]⟩, .string ⟨#[]⟩] _) := Lib.hid (St.start w #[.int .i64 4, .int .i64 a, .int .i64 0, .int .i64 n, .string (str s), .string (str t), .string (str u)] #[.int .i64 4, .int .i64 a, .int .i64 0, .int .i64 0, .string ⟨#[]⟩, .string ⟨#[]⟩, .string ⟨#[]⟩])
  have HIA := Lib.hid KIA
  clear KIA
  go_enter Tryz.func7, Tryz.ntmps7
  go_wp2_with (first | (go_at_call 20; refine (HIA.out _).mono ?_; rintro e v ⟨rfl, rfl⟩; have MKA : Hid True := Lib.hid trivial; cases ia))
  all_goals go_ret
  all_goals first
    | exact ⟨rfl, ST0.out.1⟩
set_option maxHeartbeats 12800000 in
set_option maxRecDepth 100000 in
theorem rchk_4_212 {a b n : Int} {s t u : List UInt8} (w : World) {ia ib q : Bool} (cn0 : (n == 0) = false) (cn1 : (n == 1) = false) (cb : (b == 0) = false) (KIA : ∀ W, Calls Tryz.prog 20 #[.int .i64 a] W (Pure W (.bool ia))) (KIB : ∀ W, Calls Tryz.prog 20 #[.int .i64 b] W (Pure W (.bool ib))) (hq : ∀ W, (Op.equalIn 10000 23 (.agg #[.int .i64 4, .int .i64 a, .int .i64 0, .int .i64 0, .string ⟨#[]⟩, .string ⟨#[]⟩, .string ⟨#[]⟩]) (.agg #[.int .i64 4, .int .i64 a, .int .i64 b, .int .i64 n, .string (str s), .string (str t), .string (str u)])).run Tryz.prog W = .ok q W) : Calls Tryz.prog 7 #[.agg #[.int .i64 4, .int .i64 a, .int .i64 b, .int .i64 n, .string (str s), .string (str t), .string (str u)]] w (Made w (.bool (ia && q))) := by
  have ST0 : Hid (St w #[.int .i64 4, .int .i64 a, .int .i64 b, .int .i64 n, .string (str s), .string (str t), .string (str u)] #[.int .i64 4, .int .i64 a, .int .i64 0, .int .i64 0, .string ⟨#[]⟩, .string ⟨#[]⟩, .string ⟨#[]⟩] _) := Lib.hid (St.start w #[.int .i64 4, .int .i64 a, .int .i64 b, .int .i64 n, .string (str s), .string (str t), .string (str u)] #[.int .i64 4, .int .i64 a, .int .i64 0, .int .i64 0, .string ⟨#[]⟩, .string ⟨#[]⟩, .string ⟨#[]⟩])
  have HIA := Lib.hid KIA
  have HIB := Lib.hid KIB
  clear KIA KIB
  go_enter Tryz.func7, Tryz.ntmps7
  go_wp2_with (first | (go_at_call 20; have mm := MKA.out; clear mm; refine (HIB.out _).mono ?_; rintro e v ⟨rfl, rfl⟩) | (go_at_call 20; refine (HIA.out _).mono ?_; rintro e v ⟨rfl, rfl⟩; have MKA : Hid True := Lib.hid trivial; cases ia))
  all_goals go_ret
  all_goals first
    | exact ⟨rfl, ST0.out.1⟩
set_option maxHeartbeats 12800000 in
set_option maxRecDepth 100000 in
theorem rchk_5_002 {a : Int} {s t u : List UInt8} (w : World) {ia r1 q : Bool} (KIA : ∀ W, Calls Tryz.prog 20 #[.int .i64 a] W (Pure W (.bool ia))) (KR1 : ∀ W, Calls Tryz.prog 23 #[.string (str t)] W (Made W (.bool r1))) (hq : ∀ W, (Op.equalIn 10000 23 (.agg #[.int .i64 5, .int .i64 a, .int .i64 0, .int .i64 0, .string ⟨#[]⟩, .string (str t), .string ⟨#[]⟩]) (.agg #[.int .i64 5, .int .i64 a, .int .i64 0, .int .i64 0, .string (str s), .string (str t), .string (str u)])).run Tryz.prog W = .ok q W) : Calls Tryz.prog 7 #[.agg #[.int .i64 5, .int .i64 a, .int .i64 0, .int .i64 0, .string (str s), .string (str t), .string (str u)]] w (Made w (.bool (ia && r1 && q))) := by
  have ST0 : Hid (St w #[.int .i64 5, .int .i64 a, .int .i64 0, .int .i64 0, .string (str s), .string (str t), .string (str u)] #[.int .i64 5, .int .i64 a, .int .i64 0, .int .i64 0, .string ⟨#[]⟩, .string ⟨#[]⟩, .string ⟨#[]⟩] _) := Lib.hid (St.start w #[.int .i64 5, .int .i64 a, .int .i64 0, .int .i64 0, .string (str s), .string (str t), .string (str u)] #[.int .i64 5, .int .i64 a, .int .i64 0, .int .i64 0, .string ⟨#[]⟩, .string ⟨#[]⟩, .string ⟨#[]⟩])
  have HIA := Lib.hid KIA
  have HR1 := Lib.hid KR1
  clear KIA KR1
  go_enter Tryz.func7, Tryz.ntmps7
  go_wp2_with (first | (go_at_call 23; refine (HR1.out _).mono ?_; rintro e v ⟨rfl, hb⟩; have ST1 : Hid (St w #[.int .i64 5, .int .i64 a, .int .i64 0, .int .i64 0, .string (str s), .string (str t), .string (str u)] #[.int .i64 5, .int .i64 a, .int .i64 0, .int .i64 0, .string ⟨#[]⟩, .string (str t), .string ⟨#[]⟩] v) := Lib.hid (St.made (by first | exact (St.start w _ _)) hb); clear hb; obtain ⟨x0, x1, x2, x3, x4, x5, x6, y0, y1, y2, y3, y4, y5, y6⟩ : v.cell? ⟨w.heap.size, 0, none⟩ = some (.int .i64 5) ∧ v.cell? ⟨w.heap.size, 1, none⟩ = some (.int .i64 a) ∧ v.cell? ⟨w.heap.size, 2, none⟩ = some (.int .i64 0) ∧ v.cell? ⟨w.heap.size, 3, none⟩ = some (.int .i64 0) ∧ v.cell? ⟨w.heap.size, 4, none⟩ = some (.string (str s)) ∧ v.cell? ⟨w.heap.size, 5, none⟩ = some (.string (str t)) ∧ v.cell? ⟨w.heap.size, 6, none⟩ = some (.string (str u)) ∧ v.cell? ⟨w.heap.size + 1, 0, none⟩ = some (.int .i64 5) ∧ v.cell? ⟨w.heap.size + 1, 1, none⟩ = some (.int .i64 a) ∧ v.cell? ⟨w.heap.size + 1, 2, none⟩ = some (.int .i64 0) ∧ v.cell? ⟨w.heap.size + 1, 3, none⟩ = some (.int .i64 0) ∧ v.cell? ⟨w.heap.size + 1, 4, none⟩ = some (.string ⟨#[]⟩) ∧ v.cell? ⟨w.heap.size + 1, 5, none⟩ = some (.string (str t)) ∧ v.cell? ⟨w.heap.size + 1, 6, none⟩ = some (.string ⟨#[]⟩) := ⟨ST1.out.2.1.cell 0, ST1.out.2.1.cell 1, ST1.out.2.1.cell 2, ST1.out.2.1.cell 3, ST1.out.2.1.cell 4, ST1.out.2.1.cell 5, ST1.out.2.1.cell 6, ST1.out.2.2.cell 0, ST1.out.2.2.cell 1, ST1.out.2.2.cell 2, ST1.out.2.2.cell 3, ST1.out.2.2.cell 4, ST1.out.2.2.cell 5, ST1.out.2.2.cell 6⟩; cases r1) | (go_at_call 20; refine (HIA.out _).mono ?_; rintro e v ⟨rfl, rfl⟩; have MKA : Hid True := Lib.hid trivial; cases ia))
  all_goals go_ret
  all_goals first
    | exact ⟨rfl, ST1.out.1⟩
    | exact ⟨rfl, (St.start w _ _).1⟩
set_option maxHeartbeats 12800000 in
set_option maxRecDepth 100000 in
theorem rchk_5_012 {a b : Int} {s t u : List UInt8} (w : World) {ia ib r1 q : Bool} (cb : (b == 0) = false) (KIA : ∀ W, Calls Tryz.prog 20 #[.int .i64 a] W (Pure W (.bool ia))) (KIB : ∀ W, Calls Tryz.prog 20 #[.int .i64 b] W (Pure W (.bool ib))) (KR1 : ∀ W, Calls Tryz.prog 23 #[.string (str t)] W (Made W (.bool r1))) (hq : ∀ W, (Op.equalIn 10000 23 (.agg #[.int .i64 5, .int .i64 a, .int .i64 0, .int .i64 0, .string ⟨#[]⟩, .string (str t), .string ⟨#[]⟩]) (.agg #[.int .i64 5, .int .i64 a, .int .i64 b, .int .i64 0, .string (str s), .string (str t), .string (str u)])).run Tryz.prog W = .ok q W) : Calls Tryz.prog 7 #[.agg #[.int .i64 5, .int .i64 a, .int .i64 b, .int .i64 0, .string (str s), .string (str t), .string (str u)]] w (Made w (.bool (ia && r1 && q))) := by
  have ST0 : Hid (St w #[.int .i64 5, .int .i64 a, .int .i64 b, .int .i64 0, .string (str s), .string (str t), .string (str u)] #[.int .i64 5, .int .i64 a, .int .i64 0, .int .i64 0, .string ⟨#[]⟩, .string ⟨#[]⟩, .string ⟨#[]⟩] _) := Lib.hid (St.start w #[.int .i64 5, .int .i64 a, .int .i64 b, .int .i64 0, .string (str s), .string (str t), .string (str u)] #[.int .i64 5, .int .i64 a, .int .i64 0, .int .i64 0, .string ⟨#[]⟩, .string ⟨#[]⟩, .string ⟨#[]⟩])
  have HIA := Lib.hid KIA
  have HIB := Lib.hid KIB
  have HR1 := Lib.hid KR1
  clear KIA KIB KR1
  go_enter Tryz.func7, Tryz.ntmps7
  go_wp2_with (first | (go_at_call 23; refine (HR1.out _).mono ?_; rintro e v ⟨rfl, hb⟩; have ST1 : Hid (St w #[.int .i64 5, .int .i64 a, .int .i64 b, .int .i64 0, .string (str s), .string (str t), .string (str u)] #[.int .i64 5, .int .i64 a, .int .i64 0, .int .i64 0, .string ⟨#[]⟩, .string (str t), .string ⟨#[]⟩] v) := Lib.hid (St.made (by first | exact (St.start w _ _)) hb); clear hb; obtain ⟨x0, x1, x2, x3, x4, x5, x6, y0, y1, y2, y3, y4, y5, y6⟩ : v.cell? ⟨w.heap.size, 0, none⟩ = some (.int .i64 5) ∧ v.cell? ⟨w.heap.size, 1, none⟩ = some (.int .i64 a) ∧ v.cell? ⟨w.heap.size, 2, none⟩ = some (.int .i64 b) ∧ v.cell? ⟨w.heap.size, 3, none⟩ = some (.int .i64 0) ∧ v.cell? ⟨w.heap.size, 4, none⟩ = some (.string (str s)) ∧ v.cell? ⟨w.heap.size, 5, none⟩ = some (.string (str t)) ∧ v.cell? ⟨w.heap.size, 6, none⟩ = some (.string (str u)) ∧ v.cell? ⟨w.heap.size + 1, 0, none⟩ = some (.int .i64 5) ∧ v.cell? ⟨w.heap.size + 1, 1, none⟩ = some (.int .i64 a) ∧ v.cell? ⟨w.heap.size + 1, 2, none⟩ = some (.int .i64 0) ∧ v.cell? ⟨w.heap.size + 1, 3, none⟩ = some (.int .i64 0) ∧ v.cell? ⟨w.heap.size + 1, 4, none⟩ = some (.string ⟨#[]⟩) ∧ v.cell? ⟨w.heap.size + 1, 5, none⟩ = some (.string (str t)) ∧ v.cell? ⟨w.heap.size + 1, 6, none⟩ = some (.string ⟨#[]⟩) := ⟨ST1.out.2.1.cell 0, ST1.out.2.1.cell 1, ST1.out.2.1.cell 2, ST1.out.2.1.cell 3, ST1.out.2.1.cell 4, ST1.out.2.1.cell 5, ST1.out.2.1.cell 6, ST1.out.2.2.cell 0, ST1.out.2.2.cell 1, ST1.out.2.2.cell 2, ST1.out.2.2.cell 3, ST1.out.2.2.cell 4, ST1.out.2.2.cell 5, ST1.out.2.2.cell 6⟩; cases r1) | (go_at_call 20; have mm := MKA.out; clear mm; refine (HIB.out _).mono ?_; rintro e v ⟨rfl, rfl⟩) | (go_at_call 20; refine (HIA.out _).mono ?_; rintro e v ⟨rfl, rfl⟩; have MKA : Hid True := Lib.hid trivial; cases ia))
  all_goals go_ret
  all_goals first
    | exact ⟨rfl, ST1.out.1⟩
    | exact ⟨rfl, (St.start w _ _).1⟩
set_option maxHeartbeats 12800000 in
set_option maxRecDepth 100000 in
theorem rchk_5_102 {a : Int} {s t u : List UInt8} (w : World) {ia r1 q : Bool} (KIA : ∀ W, Calls Tryz.prog 20 #[.int .i64 a] W (Pure W (.bool ia))) (KR1 : ∀ W, Calls Tryz.prog 23 #[.string (str t)] W (Made W (.bool r1))) (hq : ∀ W, (Op.equalIn 10000 23 (.agg #[.int .i64 5, .int .i64 a, .int .i64 0, .int .i64 0, .string ⟨#[]⟩, .string (str t), .string ⟨#[]⟩]) (.agg #[.int .i64 5, .int .i64 a, .int .i64 0, .int .i64 1, .string (str s), .string (str t), .string (str u)])).run Tryz.prog W = .ok q W) : Calls Tryz.prog 7 #[.agg #[.int .i64 5, .int .i64 a, .int .i64 0, .int .i64 1, .string (str s), .string (str t), .string (str u)]] w (Made w (.bool (ia && r1 && q))) := by
  have ST0 : Hid (St w #[.int .i64 5, .int .i64 a, .int .i64 0, .int .i64 1, .string (str s), .string (str t), .string (str u)] #[.int .i64 5, .int .i64 a, .int .i64 0, .int .i64 0, .string ⟨#[]⟩, .string ⟨#[]⟩, .string ⟨#[]⟩] _) := Lib.hid (St.start w #[.int .i64 5, .int .i64 a, .int .i64 0, .int .i64 1, .string (str s), .string (str t), .string (str u)] #[.int .i64 5, .int .i64 a, .int .i64 0, .int .i64 0, .string ⟨#[]⟩, .string ⟨#[]⟩, .string ⟨#[]⟩])
  have HIA := Lib.hid KIA
  have HR1 := Lib.hid KR1
  clear KIA KR1
  go_enter Tryz.func7, Tryz.ntmps7
  go_wp2_with (first | (go_at_call 23; refine (HR1.out _).mono ?_; rintro e v ⟨rfl, hb⟩; have ST1 : Hid (St w #[.int .i64 5, .int .i64 a, .int .i64 0, .int .i64 1, .string (str s), .string (str t), .string (str u)] #[.int .i64 5, .int .i64 a, .int .i64 0, .int .i64 0, .string ⟨#[]⟩, .string (str t), .string ⟨#[]⟩] v) := Lib.hid (St.made (by first | exact (St.start w _ _)) hb); clear hb; obtain ⟨x0, x1, x2, x3, x4, x5, x6, y0, y1, y2, y3, y4, y5, y6⟩ : v.cell? ⟨w.heap.size, 0, none⟩ = some (.int .i64 5) ∧ v.cell? ⟨w.heap.size, 1, none⟩ = some (.int .i64 a) ∧ v.cell? ⟨w.heap.size, 2, none⟩ = some (.int .i64 0) ∧ v.cell? ⟨w.heap.size, 3, none⟩ = some (.int .i64 1) ∧ v.cell? ⟨w.heap.size, 4, none⟩ = some (.string (str s)) ∧ v.cell? ⟨w.heap.size, 5, none⟩ = some (.string (str t)) ∧ v.cell? ⟨w.heap.size, 6, none⟩ = some (.string (str u)) ∧ v.cell? ⟨w.heap.size + 1, 0, none⟩ = some (.int .i64 5) ∧ v.cell? ⟨w.heap.size + 1, 1, none⟩ = some (.int .i64 a) ∧ v.cell? ⟨w.heap.size + 1, 2, none⟩ = some (.int .i64 0) ∧ v.cell? ⟨w.heap.size + 1, 3, none⟩ = some (.int .i64 0) ∧ v.cell? ⟨w.heap.size + 1, 4, none⟩ = some (.string ⟨#[]⟩) ∧ v.cell? ⟨w.heap.size + 1, 5, none⟩ = some (.string (str t)) ∧ v.cell? ⟨w.heap.size + 1, 6, none⟩ = some (.string ⟨#[]⟩) := ⟨ST1.out.2.1.cell 0, ST1.out.2.1.cell 1, ST1.out.2.1.cell 2, ST1.out.2.1.cell 3, ST1.out.2.1.cell 4, ST1.out.2.1.cell 5, ST1.out.2.1.cell 6, ST1.out.2.2.cell 0, ST1.out.2.2.cell 1, ST1.out.2.2.cell 2, ST1.out.2.2.cell 3, ST1.out.2.2.cell 4, ST1.out.2.2.cell 5, ST1.out.2.2.cell 6⟩; cases r1) | (go_at_call 20; refine (HIA.out _).mono ?_; rintro e v ⟨rfl, rfl⟩; have MKA : Hid True := Lib.hid trivial; cases ia))
  all_goals go_ret
  all_goals first
    | exact ⟨rfl, ST1.out.1⟩
    | exact ⟨rfl, (St.start w _ _).1⟩
set_option maxHeartbeats 12800000 in
set_option maxRecDepth 100000 in
theorem rchk_5_112 {a b : Int} {s t u : List UInt8} (w : World) {ia ib r1 q : Bool} (cb : (b == 0) = false) (KIA : ∀ W, Calls Tryz.prog 20 #[.int .i64 a] W (Pure W (.bool ia))) (KIB : ∀ W, Calls Tryz.prog 20 #[.int .i64 b] W (Pure W (.bool ib))) (KR1 : ∀ W, Calls Tryz.prog 23 #[.string (str t)] W (Made W (.bool r1))) (hq : ∀ W, (Op.equalIn 10000 23 (.agg #[.int .i64 5, .int .i64 a, .int .i64 0, .int .i64 0, .string ⟨#[]⟩, .string (str t), .string ⟨#[]⟩]) (.agg #[.int .i64 5, .int .i64 a, .int .i64 b, .int .i64 1, .string (str s), .string (str t), .string (str u)])).run Tryz.prog W = .ok q W) : Calls Tryz.prog 7 #[.agg #[.int .i64 5, .int .i64 a, .int .i64 b, .int .i64 1, .string (str s), .string (str t), .string (str u)]] w (Made w (.bool (ia && r1 && q))) := by
  have ST0 : Hid (St w #[.int .i64 5, .int .i64 a, .int .i64 b, .int .i64 1, .string (str s), .string (str t), .string (str u)] #[.int .i64 5, .int .i64 a, .int .i64 0, .int .i64 0, .string ⟨#[]⟩, .string ⟨#[]⟩, .string ⟨#[]⟩] _) := Lib.hid (St.start w #[.int .i64 5, .int .i64 a, .int .i64 b, .int .i64 1, .string (str s), .string (str t), .string (str u)] #[.int .i64 5, .int .i64 a, .int .i64 0, .int .i64 0, .string ⟨#[]⟩, .string ⟨#[]⟩, .string ⟨#[]⟩])
  have HIA := Lib.hid KIA
  have HIB := Lib.hid KIB
  have HR1 := Lib.hid KR1
  clear KIA KIB KR1
  go_enter Tryz.func7, Tryz.ntmps7
  go_wp2_with (first | (go_at_call 23; refine (HR1.out _).mono ?_; rintro e v ⟨rfl, hb⟩; have ST1 : Hid (St w #[.int .i64 5, .int .i64 a, .int .i64 b, .int .i64 1, .string (str s), .string (str t), .string (str u)] #[.int .i64 5, .int .i64 a, .int .i64 0, .int .i64 0, .string ⟨#[]⟩, .string (str t), .string ⟨#[]⟩] v) := Lib.hid (St.made (by first | exact (St.start w _ _)) hb); clear hb; obtain ⟨x0, x1, x2, x3, x4, x5, x6, y0, y1, y2, y3, y4, y5, y6⟩ : v.cell? ⟨w.heap.size, 0, none⟩ = some (.int .i64 5) ∧ v.cell? ⟨w.heap.size, 1, none⟩ = some (.int .i64 a) ∧ v.cell? ⟨w.heap.size, 2, none⟩ = some (.int .i64 b) ∧ v.cell? ⟨w.heap.size, 3, none⟩ = some (.int .i64 1) ∧ v.cell? ⟨w.heap.size, 4, none⟩ = some (.string (str s)) ∧ v.cell? ⟨w.heap.size, 5, none⟩ = some (.string (str t)) ∧ v.cell? ⟨w.heap.size, 6, none⟩ = some (.string (str u)) ∧ v.cell? ⟨w.heap.size + 1, 0, none⟩ = some (.int .i64 5) ∧ v.cell? ⟨w.heap.size + 1, 1, none⟩ = some (.int .i64 a) ∧ v.cell? ⟨w.heap.size + 1, 2, none⟩ = some (.int .i64 0) ∧ v.cell? ⟨w.heap.size + 1, 3, none⟩ = some (.int .i64 0) ∧ v.cell? ⟨w.heap.size + 1, 4, none⟩ = some (.string ⟨#[]⟩) ∧ v.cell? ⟨w.heap.size + 1, 5, none⟩ = some (.string (str t)) ∧ v.cell? ⟨w.heap.size + 1, 6, none⟩ = some (.string ⟨#[]⟩) := ⟨ST1.out.2.1.cell 0, ST1.out.2.1.cell 1, ST1.out.2.1.cell 2, ST1.out.2.1.cell 3, ST1.out.2.1.cell 4, ST1.out.2.1.cell 5, ST1.out.2.1.cell 6, ST1.out.2.2.cell 0, ST1.out.2.2.cell 1, ST1.out.2.2.cell 2, ST1.out.2.2.cell 3, ST1.out.2.2.cell 4, ST1.out.2.2.cell 5, ST1.out.2.2.cell 6⟩; cases r1) | (go_at_call 20; have mm := MKA.out; clear mm; refine (HIB.out _).mono ?_; rintro e v ⟨rfl, rfl⟩) | (go_at_call 20; refine (HIA.out _).mono ?_; rintro e v ⟨rfl, rfl⟩; have MKA : Hid True := Lib.hid trivial; cases ia))
  all_goals go_ret
  all_goals first
    | exact ⟨rfl, ST1.out.1⟩
    | exact ⟨rfl, (St.start w _ _).1⟩
set_option maxHeartbeats 12800000 in
set_option maxRecDepth 100000 in
theorem rchk_5_202 {a n : Int} {s t u : List UInt8} (w : World) {ia r1 q : Bool} (cn0 : (n == 0) = false) (cn1 : (n == 1) = false) (KIA : ∀ W, Calls Tryz.prog 20 #[.int .i64 a] W (Pure W (.bool ia))) (KR1 : ∀ W, Calls Tryz.prog 23 #[.string (str t)] W (Made W (.bool r1))) (hq : ∀ W, (Op.equalIn 10000 23 (.agg #[.int .i64 5, .int .i64 a, .int .i64 0, .int .i64 0, .string ⟨#[]⟩, .string (str t), .string ⟨#[]⟩]) (.agg #[.int .i64 5, .int .i64 a, .int .i64 0, .int .i64 n, .string (str s), .string (str t), .string (str u)])).run Tryz.prog W = .ok q W) : Calls Tryz.prog 7 #[.agg #[.int .i64 5, .int .i64 a, .int .i64 0, .int .i64 n, .string (str s), .string (str t), .string (str u)]] w (Made w (.bool (ia && r1 && q))) := by
  have ST0 : Hid (St w #[.int .i64 5, .int .i64 a, .int .i64 0, .int .i64 n, .string (str s), .string (str t), .string (str u)] #[.int .i64 5, .int .i64 a, .int .i64 0, .int .i64 0, .string ⟨#[]⟩, .string ⟨#[]⟩, .string ⟨#[]⟩] _) := Lib.hid (St.start w #[.int .i64 5, .int .i64 a, .int .i64 0, .int .i64 n, .string (str s), .string (str t), .string (str u)] #[.int .i64 5, .int .i64 a, .int .i64 0, .int .i64 0, .string ⟨#[]⟩, .string ⟨#[]⟩, .string ⟨#[]⟩])
  have HIA := Lib.hid KIA
  have HR1 := Lib.hid KR1
  clear KIA KR1
  go_enter Tryz.func7, Tryz.ntmps7
  go_wp2_with (first | (go_at_call 23; refine (HR1.out _).mono ?_; rintro e v ⟨rfl, hb⟩; have ST1 : Hid (St w #[.int .i64 5, .int .i64 a, .int .i64 0, .int .i64 n, .string (str s), .string (str t), .string (str u)] #[.int .i64 5, .int .i64 a, .int .i64 0, .int .i64 0, .string ⟨#[]⟩, .string (str t), .string ⟨#[]⟩] v) := Lib.hid (St.made (by first | exact (St.start w _ _)) hb); clear hb; obtain ⟨x0, x1, x2, x3, x4, x5, x6, y0, y1, y2, y3, y4, y5, y6⟩ : v.cell? ⟨w.heap.size, 0, none⟩ = some (.int .i64 5) ∧ v.cell? ⟨w.heap.size, 1, none⟩ = some (.int .i64 a) ∧ v.cell? ⟨w.heap.size, 2, none⟩ = some (.int .i64 0) ∧ v.cell? ⟨w.heap.size, 3, none⟩ = some (.int .i64 n) ∧ v.cell? ⟨w.heap.size, 4, none⟩ = some (.string (str s)) ∧ v.cell? ⟨w.heap.size, 5, none⟩ = some (.string (str t)) ∧ v.cell? ⟨w.heap.size, 6, none⟩ = some (.string (str u)) ∧ v.cell? ⟨w.heap.size + 1, 0, none⟩ = some (.int .i64 5) ∧ v.cell? ⟨w.heap.size + 1, 1, none⟩ = some (.int .i64 a) ∧ v.cell? ⟨w.heap.size + 1, 2, none⟩ = some (.int .i64 0) ∧ v.cell? ⟨w.heap.size + 1, 3, none⟩ = some (.int .i64 0) ∧ v.cell? ⟨w.heap.size + 1, 4, none⟩ = some (.string ⟨#[]⟩) ∧ v.cell? ⟨w.heap.size + 1, 5, none⟩ = some (.string (str t)) ∧ v.cell? ⟨w.heap.size + 1, 6, none⟩ = some (.string ⟨#[]⟩) := ⟨ST1.out.2.1.cell 0, ST1.out.2.1.cell 1, ST1.out.2.1.cell 2, ST1.out.2.1.cell 3, ST1.out.2.1.cell 4, ST1.out.2.1.cell 5, ST1.out.2.1.cell 6, ST1.out.2.2.cell 0, ST1.out.2.2.cell 1, ST1.out.2.2.cell 2, ST1.out.2.2.cell 3, ST1.out.2.2.cell 4, ST1.out.2.2.cell 5, ST1.out.2.2.cell 6⟩; cases r1) | (go_at_call 20; refine (HIA.out _).mono ?_; rintro e v ⟨rfl, rfl⟩; have MKA : Hid True := Lib.hid trivial; cases ia))
  all_goals go_ret
  all_goals first
    | exact ⟨rfl, ST1.out.1⟩
    | exact ⟨rfl, (St.start w _ _).1⟩
set_option maxHeartbeats 12800000 in
set_option maxRecDepth 100000 in
theorem rchk_5_212 {a b n : Int} {s t u : List UInt8} (w : World) {ia ib r1 q : Bool} (cn0 : (n == 0) = false) (cn1 : (n == 1) = false) (cb : (b == 0) = false) (KIA : ∀ W, Calls Tryz.prog 20 #[.int .i64 a] W (Pure W (.bool ia))) (KIB : ∀ W, Calls Tryz.prog 20 #[.int .i64 b] W (Pure W (.bool ib))) (KR1 : ∀ W, Calls Tryz.prog 23 #[.string (str t)] W (Made W (.bool r1))) (hq : ∀ W, (Op.equalIn 10000 23 (.agg #[.int .i64 5, .int .i64 a, .int .i64 0, .int .i64 0, .string ⟨#[]⟩, .string (str t), .string ⟨#[]⟩]) (.agg #[.int .i64 5, .int .i64 a, .int .i64 b, .int .i64 n, .string (str s), .string (str t), .string (str u)])).run Tryz.prog W = .ok q W) : Calls Tryz.prog 7 #[.agg #[.int .i64 5, .int .i64 a, .int .i64 b, .int .i64 n, .string (str s), .string (str t), .string (str u)]] w (Made w (.bool (ia && r1 && q))) := by
  have ST0 : Hid (St w #[.int .i64 5, .int .i64 a, .int .i64 b, .int .i64 n, .string (str s), .string (str t), .string (str u)] #[.int .i64 5, .int .i64 a, .int .i64 0, .int .i64 0, .string ⟨#[]⟩, .string ⟨#[]⟩, .string ⟨#[]⟩] _) := Lib.hid (St.start w #[.int .i64 5, .int .i64 a, .int .i64 b, .int .i64 n, .string (str s), .string (str t), .string (str u)] #[.int .i64 5, .int .i64 a, .int .i64 0, .int .i64 0, .string ⟨#[]⟩, .string ⟨#[]⟩, .string ⟨#[]⟩])
  have HIA := Lib.hid KIA
  have HIB := Lib.hid KIB
  have HR1 := Lib.hid KR1
  clear KIA KIB KR1
  go_enter Tryz.func7, Tryz.ntmps7
  go_wp2_with (first | (go_at_call 23; refine (HR1.out _).mono ?_; rintro e v ⟨rfl, hb⟩; have ST1 : Hid (St w #[.int .i64 5, .int .i64 a, .int .i64 b, .int .i64 n, .string (str s), .string (str t), .string (str u)] #[.int .i64 5, .int .i64 a, .int .i64 0, .int .i64 0, .string ⟨#[]⟩, .string (str t), .string ⟨#[]⟩] v) := Lib.hid (St.made (by first | exact (St.start w _ _)) hb); clear hb; obtain ⟨x0, x1, x2, x3, x4, x5, x6, y0, y1, y2, y3, y4, y5, y6⟩ : v.cell? ⟨w.heap.size, 0, none⟩ = some (.int .i64 5) ∧ v.cell? ⟨w.heap.size, 1, none⟩ = some (.int .i64 a) ∧ v.cell? ⟨w.heap.size, 2, none⟩ = some (.int .i64 b) ∧ v.cell? ⟨w.heap.size, 3, none⟩ = some (.int .i64 n) ∧ v.cell? ⟨w.heap.size, 4, none⟩ = some (.string (str s)) ∧ v.cell? ⟨w.heap.size, 5, none⟩ = some (.string (str t)) ∧ v.cell? ⟨w.heap.size, 6, none⟩ = some (.string (str u)) ∧ v.cell? ⟨w.heap.size + 1, 0, none⟩ = some (.int .i64 5) ∧ v.cell? ⟨w.heap.size + 1, 1, none⟩ = some (.int .i64 a) ∧ v.cell? ⟨w.heap.size + 1, 2, none⟩ = some (.int .i64 0) ∧ v.cell? ⟨w.heap.size + 1, 3, none⟩ = some (.int .i64 0) ∧ v.cell? ⟨w.heap.size + 1, 4, none⟩ = some (.string ⟨#[]⟩) ∧ v.cell? ⟨w.heap.size + 1, 5, none⟩ = some (.string (str t)) ∧ v.cell? ⟨w.heap.size + 1, 6, none⟩ = some (.string ⟨#[]⟩) := ⟨ST1.out.2.1.cell 0, ST1.out.2.1.cell 1, ST1.out.2.1.cell 2, ST1.out.2.1.cell 3, ST1.out.2.1.cell 4, ST1.out.2.1.cell 5, ST1.out.2.1.cell 6, ST1.out.2.2.cell 0, ST1.out.2.2.cell 1, ST1.out.2.2.cell 2, ST1.out.2.2.cell 3, ST1.out.2.2.cell 4, ST1.out.2.2.cell 5, ST1.out.2.2.cell 6⟩; cases r1) | (go_at_call 20; have mm := MKA.out; clear mm; refine (HIB.out _).mono ?_; rintro e v ⟨rfl, rfl⟩) | (go_at_call 20; refine (HIA.out _).mono ?_; rintro e v ⟨rfl, rfl⟩; have MKA : Hid True := Lib.hid trivial; cases ia))
  all_goals go_ret
  all_goals first
    | exact ⟨rfl, ST1.out.1⟩
    | exact ⟨rfl, (St.start w _ _).1⟩
set_option maxHeartbeats 12800000 in
set_option maxRecDepth 100000 in
theorem rchk_6_002 {a : Int} {s t u : List UInt8} (w : World) {ia q : Bool} (KIA : ∀ W, Calls Tryz.prog 20 #[.int .i64 a] W (Pure W (.bool ia))) (hq : ∀ W, (Op.equalIn 10000 23 (.agg #[.int .i64 6, .int .i64 a, .int .i64 0, .int .i64 0, .string ⟨#[]⟩, .string ⟨#[]⟩, .string ⟨#[]⟩]) (.agg #[.int .i64 6, .int .i64 a, .int .i64 0, .int .i64 0, .string (str s), .string (str t), .string (str u)])).run Tryz.prog W = .ok q W) : Calls Tryz.prog 7 #[.agg #[.int .i64 6, .int .i64 a, .int .i64 0, .int .i64 0, .string (str s), .string (str t), .string (str u)]] w (Made w (.bool (ia && true && q))) := by
  have ST0 : Hid (St w #[.int .i64 6, .int .i64 a, .int .i64 0, .int .i64 0, .string (str s), .string (str t), .string (str u)] #[.int .i64 6, .int .i64 a, .int .i64 0, .int .i64 0, .string ⟨#[]⟩, .string ⟨#[]⟩, .string ⟨#[]⟩] _) := Lib.hid (St.start w #[.int .i64 6, .int .i64 a, .int .i64 0, .int .i64 0, .string (str s), .string (str t), .string (str u)] #[.int .i64 6, .int .i64 a, .int .i64 0, .int .i64 0, .string ⟨#[]⟩, .string ⟨#[]⟩, .string ⟨#[]⟩])
  have HIA := Lib.hid KIA
  clear KIA
  go_enter Tryz.func7, Tryz.ntmps7
  go_wp2_with (first | (go_at_call 20; refine (HIA.out _).mono ?_; rintro e v ⟨rfl, rfl⟩; have MKA : Hid True := Lib.hid trivial; cases ia))
  all_goals go_ret
  all_goals first
    | exact ⟨rfl, (St.start w _ _).1⟩
set_option maxHeartbeats 12800000 in
set_option maxRecDepth 100000 in
theorem rchk_6_012 {a b : Int} {s t u : List UInt8} (w : World) {ia ib q : Bool} (cb : (b == 0) = false) (KIA : ∀ W, Calls Tryz.prog 20 #[.int .i64 a] W (Pure W (.bool ia))) (KIB : ∀ W, Calls Tryz.prog 20 #[.int .i64 b] W (Pure W (.bool ib))) (hq : ∀ W, (Op.equalIn 10000 23 (.agg #[.int .i64 6, .int .i64 a, .int .i64 b, .int .i64 0, .string ⟨#[]⟩, .string ⟨#[]⟩, .string ⟨#[]⟩]) (.agg #[.int .i64 6, .int .i64 a, .int .i64 b, .int .i64 0, .string (str s), .string (str t), .string (str u)])).run Tryz.prog W = .ok q W) : Calls Tryz.prog 7 #[.agg #[.int .i64 6, .int .i64 a, .int .i64 b, .int .i64 0, .string (str s), .string (str t), .string (str u)]] w (Made w (.bool (ia && ib && q))) := by
  have ST0 : Hid (St w #[.int .i64 6, .int .i64 a, .int .i64 b, .int .i64 0, .string (str s), .string (str t), .string (str u)] #[.int .i64 6, .int .i64 a, .int .i64 0, .int .i64 0, .string ⟨#[]⟩, .string ⟨#[]⟩, .string ⟨#[]⟩] _) := Lib.hid (St.start w #[.int .i64 6, .int .i64 a, .int .i64 b, .int .i64 0, .string (str s), .string (str t), .string (str u)] #[.int .i64 6, .int .i64 a, .int .i64 0, .int .i64 0, .string ⟨#[]⟩, .string ⟨#[]⟩, .string ⟨#[]⟩])
  have HIA := Lib.hid KIA
  have HIB := Lib.hid KIB
  clear KIA KIB
  go_enter Tryz.func7, Tryz.ntmps7
  go_wp2_with (first | (go_at_call 20; have mm := MKA.out; clear mm; refine (HIB.out _).mono ?_; rintro e v ⟨rfl, rfl⟩; cases ib) | (go_at_call 20; refine (HIA.out _).mono ?_; rintro e v ⟨rfl, rfl⟩; have MKA : Hid True := Lib.hid trivial; cases ia))
  all_goals go_ret
  all_goals first
    | exact ⟨rfl, (St.start w _ _).1⟩
set_option maxHeartbeats 12800000 in
set_option maxRecDepth 100000 in
theorem rchk_6_102 {a : Int} {s t u : List UInt8} (w : World) {ia q : Bool} (KIA : ∀ W, Calls Tryz.prog 20 #[.int .i64 a] W (Pure W (.bool ia))) (hq : ∀ W, (Op.equalIn 10000 23 (.agg #[.int .i64 6, .int .i64 a, .int .i64 0, .int .i64 0, .string ⟨#[]⟩, .string ⟨#[]⟩, .string ⟨#[]⟩]) (.agg #[.int .i64 6, .int .i64 a, .int .i64 0, .int .i64 1, .string (str s), .string (str t), .string (str u)])).run Tryz.prog W = .ok q W) : Calls Tryz.prog 7 #[.agg #[.int .i64 6, .int .i64 a, .int .i64 0, .int .i64 1, .string (str s), .string (str t), .string (str u)]] w (Made w (.bool (ia && true && q))) := by
  have ST0 : Hid (St w #[.int .i64 6, .int .i64 a, .int .i64 0, .int .i64 1, .string (str s), .string (str t), .string (str u)] #[.int .i64 6, .int .i64 a, .int .i64 0, .int .i64 0, .string ⟨#[]⟩, .string ⟨#[]⟩, .string ⟨#[]⟩] _) := Lib.hid (St.start w #[.int .i64 6, .int .i64 a, .int .i64 0, .int .i64 1, .string (str s), .string (str t), .string (str u)] #[.int .i64 6, .int .i64 a, .int .i64 0, .int .i64 0, .string ⟨#[]⟩, .string ⟨#[]⟩, .string ⟨#[]⟩])
  have HIA := Lib.hid KIA
  clear KIA
  go_enter Tryz.func7, Tryz.ntmps7
  go_wp2_with (first | (go_at_call 20; refine (HIA.out _).mono ?_; rintro e v ⟨rfl, rfl⟩; have MKA : Hid True := Lib.hid trivial; cases ia))
  all_goals go_ret
  all_goals first
    | exact ⟨rfl, (St.start w _ _).1⟩
set_option maxHeartbeats 12800000 in
set_option maxRecDepth 100000 in
theorem rchk_6_112 {a b : Int} {s t u : List UInt8} (w : World) {ia ib q : Bool} (cb : (b == 0) = false) (KIA : ∀ W, Calls Tryz.prog 20 #[.int .i64 a] W (Pure W (.bool ia))) (KIB : ∀ W, Calls Tryz.prog 20 #[.int .i64 b] W (Pure W (.bool ib))) (hq : ∀ W, (Op.equalIn 10000 23 (.agg #[.int .i64 6, .int .i64 a, .int .i64 b, .int .i64 0, .string ⟨#[]⟩, .string ⟨#[]⟩, .string ⟨#[]⟩]) (.agg #[.int .i64 6, .int .i64 a, .int .i64 b, .int .i64 1, .string (str s), .string (str t), .string (str u)])).run Tryz.prog W = .ok q W) : Calls Tryz.prog 7 #[.agg #[.int .i64 6, .int .i64 a, .int .i64 b, .int .i64 1, .string (str s), .string (str t), .string (str u)]] w (Made w (.bool (ia && ib && q))) := by
  have ST0 : Hid (St w #[.int .i64 6, .int .i64 a, .int .i64 b, .int .i64 1, .string (str s), .string (str t), .string (str u)] #[.int .i64 6, .int .i64 a, .int .i64 0, .int .i64 0, .string ⟨#[]⟩, .string ⟨#[]⟩, .string ⟨#[]⟩] _) := Lib.hid (St.start w #[.int .i64 6, .int .i64 a, .int .i64 b, .int .i64 1, .string (str s), .string (str t), .string (str u)] #[.int .i64 6, .int .i64 a, .int .i64 0, .int .i64 0, .string ⟨#[]⟩, .string ⟨#[]⟩, .string ⟨#[]⟩])
  have HIA := Lib.hid KIA
  have HIB := Lib.hid KIB
  clear KIA KIB
  go_enter Tryz.func7, Tryz.ntmps7
  go_wp2_with (first | (go_at_call 20; have mm := MKA.out; clear mm; refine (HIB.out _).mono ?_; rintro e v ⟨rfl, rfl⟩; cases ib) | (go_at_call 20; refine (HIA.out _).mono ?_; rintro e v ⟨rfl, rfl⟩; have MKA : Hid True := Lib.hid trivial; cases ia))
  all_goals go_ret
  all_goals first
    | exact ⟨rfl, (St.start w _ _).1⟩
set_option maxHeartbeats 12800000 in
set_option maxRecDepth 100000 in
theorem rchk_6_202 {a n : Int} {s t u : List UInt8} (w : World) {ia q : Bool} (cn0 : (n == 0) = false) (cn1 : (n == 1) = false) (KIA : ∀ W, Calls Tryz.prog 20 #[.int .i64 a] W (Pure W (.bool ia))) (hq : ∀ W, (Op.equalIn 10000 23 (.agg #[.int .i64 6, .int .i64 a, .int .i64 0, .int .i64 0, .string ⟨#[]⟩, .string ⟨#[]⟩, .string ⟨#[]⟩]) (.agg #[.int .i64 6, .int .i64 a, .int .i64 0, .int .i64 n, .string (str s), .string (str t), .string (str u)])).run Tryz.prog W = .ok q W) : Calls Tryz.prog 7 #[.agg #[.int .i64 6, .int .i64 a, .int .i64 0, .int .i64 n, .string (str s), .string (str t), .string (str u)]] w (Made w (.bool (ia && true && q))) := by
  have ST0 : Hid (St w #[.int .i64 6, .int .i64 a, .int .i64 0, .int .i64 n, .string (str s), .string (str t), .string (str u)] #[.int .i64 6, .int .i64 a, .int .i64 0, .int .i64 0, .string ⟨#[]⟩, .string ⟨#[]⟩, .string ⟨#[]⟩] _) := Lib.hid (St.start w #[.int .i64 6, .int .i64 a, .int .i64 0, .int .i64 n, .string (str s), .string (str t), .string (str u)] #[.int .i64 6, .int .i64 a, .int .i64 0, .int .i64 0, .string ⟨#[]⟩, .string ⟨#[]⟩, .string ⟨#[]⟩])
  have HIA := Lib.hid KIA
  clear KIA
  go_enter Tryz.func7, Tryz.ntmps7
  go_wp2_with (first | (go_at_call 20; refine (HIA.out _).mono ?_; rintro e v ⟨rfl, rfl⟩; have MKA : Hid True := Lib.hid trivial; cases ia))
  all_goals go_ret
  all_goals first
    | exact ⟨rfl, (St.start w _ _).1⟩
set_option maxHeartbeats 12800000 in
set_option maxRecDepth 100000 in
theorem rchk_6_212 {a b n : Int} {s t u : List UInt8} (w : World) {ia ib q : Bool} (cn0 : (n == 0) = false) (cn1 : (n == 1) = false) (cb : (b == 0) = false) (KIA : ∀ W, Calls Tryz.prog 20 #[.int .i64 a] W (Pure W (.bool ia))) (KIB : ∀ W, Calls Tryz.prog 20 #[.int .i64 b] W (Pure W (.bool ib))) (hq : ∀ W, (Op.equalIn 10000 23 (.agg #[.int .i64 6, .int .i64 a, .int .i64 b, .int .i64 0, .string ⟨#[]⟩, .string ⟨#[]⟩, .string ⟨#[]⟩]) (.agg #[.int .i64 6, .int .i64 a, .int .i64 b, .int .i64 n, .string (str s), .string (str t), .string (str u)])).run Tryz.prog W = .ok q W) : Calls Tryz.prog 7 #[.agg #[.int .i64 6, .int .i64 a, .int .i64 b, .int .i64 n, .string (str s), .string (str t), .string (str u)]] w (Made w (.bool (ia && ib && q))) := by
  have ST0 : Hid (St w #[.int .i64 6, .int .i64 a, .int .i64 b, .int .i64 n, .string (str s), .string (str t), .string (str u)] #[.int .i64 6, .int .i64 a, .int .i64 0, .int .i64 0, .string ⟨#[]⟩, .string ⟨#[]⟩, .string ⟨#[]⟩] _) := Lib.hid (St.start w #[.int .i64 6, .int .i64 a, .int .i64 b, .int .i64 n, .string (str s), .string (str t), .string (str u)] #[.int .i64 6, .int .i64 a, .int .i64 0, .int .i64 0, .string ⟨#[]⟩, .string ⟨#[]⟩, .string ⟨#[]⟩])
  have HIA := Lib.hid KIA
  have HIB := Lib.hid KIB
  clear KIA KIB
  go_enter Tryz.func7, Tryz.ntmps7
  go_wp2_with (first | (go_at_call 20; have mm := MKA.out; clear mm; refine (HIB.out _).mono ?_; rintro e v ⟨rfl, rfl⟩; cases ib) | (go_at_call 20; refine (HIA.out _).mono ?_; rintro e v ⟨rfl, rfl⟩; have MKA : Hid True := Lib.hid trivial; cases ia))
  all_goals go_ret
  all_goals first
    | exact ⟨rfl, (St.start w _ _).1⟩
end Go.Proofs.YtelhdkidnhfnbabGreatDoor
