/-
  event.Check in general: chkB. Condition: each text has at most 2^36 bytes.
-/
import Derived.Test.YtelhdkidnhfnbabGreatDoorVLives
import Derived.Test.YtelhdkidnhfnbabGreatDoorDOf
namespace Go.Proofs.YtelhdkidnhfnbabGreatDoor
open Go.RowKit

set_option maxHeartbeats 6400000 in
set_option maxRecDepth 100000 in
theorem isMoment_any (n : Int) (w : World) : Calls Tryz.prog 46 #[.int .i64 n] w (Made w (.bool (mayN n))) := by
  cases hm : mayN n with
  | false =>
    have HO := Lib.hid (fun W => of_no n W hm)
    clear hm
    go_enter Tryz.func46, Tryz.ntmps46
    go_wp2_with (first | (go_at_call 61; refine (HO.out _).mono ?_; rintro e v1 ⟨rfl, hb⟩; have C1 := Lib.hid hb; clear hb))
    go_ret
    exact ⟨rfl, (C1.out).alloc C1.out.size _⟩
  | true =>
    have HO := Lib.hid (fun W => of_yes n W hm)
    clear hm
    go_enter Tryz.func46, Tryz.ntmps46
    go_wp2_with (first | (go_at_call 61; refine (HO.out _).mono ?_; rintro e v1 ⟨y, m, d, h, mi, s, rfl, _, _, _, hb⟩; have C1 := Lib.hid hb; clear hb))
    go_ret
    exact ⟨rfl, (C1.out).alloc C1.out.size _⟩

/-- May the event of that kind, with those numbers and texts, be? -/
def chkB (k a b n : Int) (s t u : List UInt8) : Bool :=
  bif k == 1 then (idB a && idNB b && (n == 0) && labelB s && (t == []) && (u == []))
  else bif k == 2 then (idB a && (b == 0) && (n == 0) && (s == []) && (t == []) && (u == []))
  else bif k == 3 then (idB a && idNB b && (n == 0) && placeB s && textB t 256 && (u == []))
  else bif k == 4 then (idB a && (b == 0) && (n == 0) && (s == []) && (t == []) && (u == []))
  else bif k == 5 then (idB a && (b == 0) && (n == 0) && (s == []) && textB t 256 && (u == []))
  else bif k == 6 then (idB a && idNB b && (n == 0) && (s == []) && (t == []) && (u == []))
  else bif k == 7 then (idB a && idB b && mayN n && placeB s && textB t 256 && textB u 512)
  else bif k == 8 then (idB a && (b == 0) && flagB n && (s == []) && (t == []) && (u == []))
  else bif k == 9 then (idB a && (b == 0) && flagB n && (s == []) && (t == []) && (u == []))
  else bif k == 10 then (idB a && (b == 0) && flagB n && tagB s && (t == []) && (u == []))
  else bif k == 11 then (idB a && (b == 0) && (n == 0) && labelB s && queryB t && (u == []))
  else bif k == 12 then (idB a && (b == 0) && (n == 0) && (s == []) && (t == []) && (u == []))
  else bif k == 13 then ((a == 0) && (b == 0) && mayN n && (s == []) && (t == []) && (u == [])) else false

theorem chk_1 (a b n : Int) (s t u : List UInt8) : chkB 1 a b n s t u = (idB a && idNB b && (n == 0) && labelB s && (t == []) && (u == [])) := rfl
theorem chk_2 (a b n : Int) (s t u : List UInt8) : chkB 2 a b n s t u = (idB a && (b == 0) && (n == 0) && (s == []) && (t == []) && (u == [])) := rfl
theorem chk_3 (a b n : Int) (s t u : List UInt8) : chkB 3 a b n s t u = (idB a && idNB b && (n == 0) && placeB s && textB t 256 && (u == [])) := rfl
theorem chk_4 (a b n : Int) (s t u : List UInt8) : chkB 4 a b n s t u = (idB a && (b == 0) && (n == 0) && (s == []) && (t == []) && (u == [])) := rfl
theorem chk_5 (a b n : Int) (s t u : List UInt8) : chkB 5 a b n s t u = (idB a && (b == 0) && (n == 0) && (s == []) && textB t 256 && (u == [])) := rfl
theorem chk_6 (a b n : Int) (s t u : List UInt8) : chkB 6 a b n s t u = (idB a && idNB b && (n == 0) && (s == []) && (t == []) && (u == [])) := rfl
theorem chk_7 (a b n : Int) (s t u : List UInt8) : chkB 7 a b n s t u = (idB a && idB b && mayN n && placeB s && textB t 256 && textB u 512) := rfl
theorem chk_8 (a b n : Int) (s t u : List UInt8) : chkB 8 a b n s t u = (idB a && (b == 0) && flagB n && (s == []) && (t == []) && (u == [])) := rfl
theorem chk_9 (a b n : Int) (s t u : List UInt8) : chkB 9 a b n s t u = (idB a && (b == 0) && flagB n && (s == []) && (t == []) && (u == [])) := rfl
theorem chk_10 (a b n : Int) (s t u : List UInt8) : chkB 10 a b n s t u = (idB a && (b == 0) && flagB n && tagB s && (t == []) && (u == [])) := rfl
theorem chk_11 (a b n : Int) (s t u : List UInt8) : chkB 11 a b n s t u = (idB a && (b == 0) && (n == 0) && labelB s && queryB t && (u == [])) := rfl
theorem chk_12 (a b n : Int) (s t u : List UInt8) : chkB 12 a b n s t u = (idB a && (b == 0) && (n == 0) && (s == []) && (t == []) && (u == [])) := rfl
theorem chk_13 (a b n : Int) (s t u : List UInt8) : chkB 13 a b n s t u = ((a == 0) && (b == 0) && mayN n && (s == []) && (t == []) && (u == [])) := rfl
theorem check_1 {a b n : Int} {s t u : List UInt8} (w : World) (hs : s.length ≤ 68719476736) : Calls Tryz.prog 10 #[.agg #[.int .i64 1, .int .i64 a, .int .i64 b, .int .i64 n, .string (str s), .string (str t), .string (str u)]] w (Made w (.int .i64 (if chkB 1 a b n s t u = true then 0 else 140))) := by
  rw [chk_1]
  exact check_gen fields_1 ent_isID ent_isIDOrNone ent_noNumber ent_Label ent_noText ent_noText
    (fun V _ => pureMade (isID_any a V)) (fun V _ => pureMade (isIDOrNone_any b V)) (fun V _ => pureMade (noNumber_any n V)) (fun V _ => label_any s V (by omega)) (fun V _ => pureMade (noText_any t V)) (fun V _ => pureMade (noText_any u V))
theorem check_2 {a b n : Int} {s t u : List UInt8} (w : World)  : Calls Tryz.prog 10 #[.agg #[.int .i64 2, .int .i64 a, .int .i64 b, .int .i64 n, .string (str s), .string (str t), .string (str u)]] w (Made w (.int .i64 (if chkB 2 a b n s t u = true then 0 else 140))) := by
  rw [chk_2]
  exact check_gen fields_2 ent_isID ent_noNumber ent_noNumber ent_noText ent_noText ent_noText
    (fun V _ => pureMade (isID_any a V)) (fun V _ => pureMade (noNumber_any b V)) (fun V _ => pureMade (noNumber_any n V)) (fun V _ => pureMade (noText_any s V)) (fun V _ => pureMade (noText_any t V)) (fun V _ => pureMade (noText_any u V))
theorem check_3 {a b n : Int} {s t u : List UInt8} (w : World) (hs : s.length ≤ 68719476736) (ht : t.length ≤ 68719476736) : Calls Tryz.prog 10 #[.agg #[.int .i64 3, .int .i64 a, .int .i64 b, .int .i64 n, .string (str s), .string (str t), .string (str u)]] w (Made w (.int .i64 (if chkB 3 a b n s t u = true then 0 else 140))) := by
  rw [chk_3]
  exact check_gen fields_3 ent_isID ent_isIDOrNone ent_noNumber ent_isPlace ent_Title ent_noText
    (fun V _ => pureMade (isID_any a V)) (fun V _ => pureMade (isIDOrNone_any b V)) (fun V _ => pureMade (noNumber_any n V)) (fun V _ => isPlace_any s V (by omega)) (fun V _ => title_any t V (by omega)) (fun V _ => pureMade (noText_any u V))
theorem check_4 {a b n : Int} {s t u : List UInt8} (w : World)  : Calls Tryz.prog 10 #[.agg #[.int .i64 4, .int .i64 a, .int .i64 b, .int .i64 n, .string (str s), .string (str t), .string (str u)]] w (Made w (.int .i64 (if chkB 4 a b n s t u = true then 0 else 140))) := by
  rw [chk_4]
  exact check_gen fields_4 ent_isID ent_noNumber ent_noNumber ent_noText ent_noText ent_noText
    (fun V _ => pureMade (isID_any a V)) (fun V _ => pureMade (noNumber_any b V)) (fun V _ => pureMade (noNumber_any n V)) (fun V _ => pureMade (noText_any s V)) (fun V _ => pureMade (noText_any t V)) (fun V _ => pureMade (noText_any u V))
theorem check_5 {a b n : Int} {s t u : List UInt8} (w : World) (ht : t.length ≤ 68719476736) : Calls Tryz.prog 10 #[.agg #[.int .i64 5, .int .i64 a, .int .i64 b, .int .i64 n, .string (str s), .string (str t), .string (str u)]] w (Made w (.int .i64 (if chkB 5 a b n s t u = true then 0 else 140))) := by
  rw [chk_5]
  exact check_gen fields_5 ent_isID ent_noNumber ent_noNumber ent_noText ent_Title ent_noText
    (fun V _ => pureMade (isID_any a V)) (fun V _ => pureMade (noNumber_any b V)) (fun V _ => pureMade (noNumber_any n V)) (fun V _ => pureMade (noText_any s V)) (fun V _ => title_any t V (by omega)) (fun V _ => pureMade (noText_any u V))
theorem check_6 {a b n : Int} {s t u : List UInt8} (w : World)  : Calls Tryz.prog 10 #[.agg #[.int .i64 6, .int .i64 a, .int .i64 b, .int .i64 n, .string (str s), .string (str t), .string (str u)]] w (Made w (.int .i64 (if chkB 6 a b n s t u = true then 0 else 140))) := by
  rw [chk_6]
  exact check_gen fields_6 ent_isID ent_isIDOrNone ent_noNumber ent_noText ent_noText ent_noText
    (fun V _ => pureMade (isID_any a V)) (fun V _ => pureMade (isIDOrNone_any b V)) (fun V _ => pureMade (noNumber_any n V)) (fun V _ => pureMade (noText_any s V)) (fun V _ => pureMade (noText_any t V)) (fun V _ => pureMade (noText_any u V))
theorem check_7 {a b n : Int} {s t u : List UInt8} (w : World) (hs : s.length ≤ 68719476736) (ht : t.length ≤ 68719476736) (hu : u.length ≤ 68719476736) : Calls Tryz.prog 10 #[.agg #[.int .i64 7, .int .i64 a, .int .i64 b, .int .i64 n, .string (str s), .string (str t), .string (str u)]] w (Made w (.int .i64 (if chkB 7 a b n s t u = true then 0 else 140))) := by
  rw [chk_7]
  exact check_gen fields_7 ent_isID ent_isID ent_isMoment ent_isPlace ent_Title ent_Link
    (fun V _ => pureMade (isID_any a V)) (fun V _ => pureMade (isID_any b V)) (fun V _ => isMoment_any n V) (fun V _ => isPlace_any s V (by omega)) (fun V _ => title_any t V (by omega)) (fun V _ => link_any u V (by omega))
theorem check_8 {a b n : Int} {s t u : List UInt8} (w : World)  : Calls Tryz.prog 10 #[.agg #[.int .i64 8, .int .i64 a, .int .i64 b, .int .i64 n, .string (str s), .string (str t), .string (str u)]] w (Made w (.int .i64 (if chkB 8 a b n s t u = true then 0 else 140))) := by
  rw [chk_8]
  exact check_gen fields_8 ent_isID ent_noNumber ent_isFlag ent_noText ent_noText ent_noText
    (fun V _ => pureMade (isID_any a V)) (fun V _ => pureMade (noNumber_any b V)) (fun V _ => pureMade (isFlag_any n V)) (fun V _ => pureMade (noText_any s V)) (fun V _ => pureMade (noText_any t V)) (fun V _ => pureMade (noText_any u V))
theorem check_9 {a b n : Int} {s t u : List UInt8} (w : World)  : Calls Tryz.prog 10 #[.agg #[.int .i64 9, .int .i64 a, .int .i64 b, .int .i64 n, .string (str s), .string (str t), .string (str u)]] w (Made w (.int .i64 (if chkB 9 a b n s t u = true then 0 else 140))) := by
  rw [chk_9]
  exact check_gen fields_9 ent_isID ent_noNumber ent_isFlag ent_noText ent_noText ent_noText
    (fun V _ => pureMade (isID_any a V)) (fun V _ => pureMade (noNumber_any b V)) (fun V _ => pureMade (isFlag_any n V)) (fun V _ => pureMade (noText_any s V)) (fun V _ => pureMade (noText_any t V)) (fun V _ => pureMade (noText_any u V))
theorem check_10 {a b n : Int} {s t u : List UInt8} (w : World) (hs : s.length ≤ 68719476736) : Calls Tryz.prog 10 #[.agg #[.int .i64 10, .int .i64 a, .int .i64 b, .int .i64 n, .string (str s), .string (str t), .string (str u)]] w (Made w (.int .i64 (if chkB 10 a b n s t u = true then 0 else 140))) := by
  rw [chk_10]
  exact check_gen fields_10 ent_isID ent_noNumber ent_isFlag ent_Tag ent_noText ent_noText
    (fun V _ => pureMade (isID_any a V)) (fun V _ => pureMade (noNumber_any b V)) (fun V _ => pureMade (isFlag_any n V)) (fun V _ => tag_any s V (by omega) (by omega)) (fun V _ => pureMade (noText_any t V)) (fun V _ => pureMade (noText_any u V))
theorem check_11 {a b n : Int} {s t u : List UInt8} (w : World) (hs : s.length ≤ 68719476736) (ht : t.length ≤ 68719476736) : Calls Tryz.prog 10 #[.agg #[.int .i64 11, .int .i64 a, .int .i64 b, .int .i64 n, .string (str s), .string (str t), .string (str u)]] w (Made w (.int .i64 (if chkB 11 a b n s t u = true then 0 else 140))) := by
  rw [chk_11]
  exact check_gen fields_11 ent_isID ent_noNumber ent_noNumber ent_Label ent_Query ent_noText
    (fun V _ => pureMade (isID_any a V)) (fun V _ => pureMade (noNumber_any b V)) (fun V _ => pureMade (noNumber_any n V)) (fun V _ => label_any s V (by omega)) (fun V _ => query_any t V (by omega)) (fun V _ => pureMade (noText_any u V))
theorem check_12 {a b n : Int} {s t u : List UInt8} (w : World)  : Calls Tryz.prog 10 #[.agg #[.int .i64 12, .int .i64 a, .int .i64 b, .int .i64 n, .string (str s), .string (str t), .string (str u)]] w (Made w (.int .i64 (if chkB 12 a b n s t u = true then 0 else 140))) := by
  rw [chk_12]
  exact check_gen fields_12 ent_isID ent_noNumber ent_noNumber ent_noText ent_noText ent_noText
    (fun V _ => pureMade (isID_any a V)) (fun V _ => pureMade (noNumber_any b V)) (fun V _ => pureMade (noNumber_any n V)) (fun V _ => pureMade (noText_any s V)) (fun V _ => pureMade (noText_any t V)) (fun V _ => pureMade (noText_any u V))
theorem check_13 {a b n : Int} {s t u : List UInt8} (w : World)  : Calls Tryz.prog 10 #[.agg #[.int .i64 13, .int .i64 a, .int .i64 b, .int .i64 n, .string (str s), .string (str t), .string (str u)]] w (Made w (.int .i64 (if chkB 13 a b n s t u = true then 0 else 140))) := by
  rw [chk_13]
  exact check_gen fields_13 ent_noNumber ent_noNumber ent_isMoment ent_noText ent_noText ent_noText
    (fun V _ => pureMade (noNumber_any a V)) (fun V _ => pureMade (noNumber_any b V)) (fun V _ => isMoment_any n V) (fun V _ => pureMade (noText_any s V)) (fun V _ => pureMade (noText_any t V)) (fun V _ => pureMade (noText_any u V))
theorem chk_0 {k : Int} (a b n : Int) (s t u : List UInt8) (c1 : (k == 1) = false) (c2 : (k == 2) = false) (c3 : (k == 3) = false) (c4 : (k == 4) = false) (c5 : (k == 5) = false) (c6 : (k == 6) = false) (c7 : (k == 7) = false) (c8 : (k == 8) = false) (c9 : (k == 9) = false) (c10 : (k == 10) = false) (c11 : (k == 11) = false) (c12 : (k == 12) = false) (c13 : (k == 13) = false) : chkB k a b n s t u = false := by
  unfold chkB; simp only [c1, c2, c3, c4, c5, c6, c7, c8, c9, c10, c11, c12, c13, cond_false]
theorem check_any {k a b n : Int} {s t u : List UInt8} (w : World) (hs : s.length ≤ 68719476736) (ht : t.length ≤ 68719476736) (hu : u.length ≤ 68719476736) : Calls Tryz.prog 10 #[.agg #[.int .i64 k, .int .i64 a, .int .i64 b, .int .i64 n, .string (str s), .string (str t), .string (str u)]] w (Made w (.int .i64 (if chkB k a b n s t u = true then 0 else 140))) := by
  cases c1 : (k == 1)
  case true => obtain rfl : k = 1 := by simpa using c1
               exact check_1 w hs
  cases c2 : (k == 2)
  case true => obtain rfl : k = 2 := by simpa using c2
               exact check_2 w 
  cases c3 : (k == 3)
  case true => obtain rfl : k = 3 := by simpa using c3
               exact check_3 w hs ht
  cases c4 : (k == 4)
  case true => obtain rfl : k = 4 := by simpa using c4
               exact check_4 w 
  cases c5 : (k == 5)
  case true => obtain rfl : k = 5 := by simpa using c5
               exact check_5 w ht
  cases c6 : (k == 6)
  case true => obtain rfl : k = 6 := by simpa using c6
               exact check_6 w 
  cases c7 : (k == 7)
  case true => obtain rfl : k = 7 := by simpa using c7
               exact check_7 w hs ht hu
  cases c8 : (k == 8)
  case true => obtain rfl : k = 8 := by simpa using c8
               exact check_8 w 
  cases c9 : (k == 9)
  case true => obtain rfl : k = 9 := by simpa using c9
               exact check_9 w 
  cases c10 : (k == 10)
  case true => obtain rfl : k = 10 := by simpa using c10
               exact check_10 w hs
  cases c11 : (k == 11)
  case true => obtain rfl : k = 11 := by simpa using c11
               exact check_11 w hs ht
  cases c12 : (k == 12)
  case true => obtain rfl : k = 12 := by simpa using c12
               exact check_12 w 
  cases c13 : (k == 13)
  case true => obtain rfl : k = 13 := by simpa using c13
               exact check_13 w 
  rw [chk_0 a b n s t u c1 c2 c3 c4 c5 c6 c7 c8 c9 c10 c11 c12 c13]
  exact check_no w fun V => fields_no V c1 c2 c3 c4 c5 c6 c7 c8 c9 c10 c11 c12 c13
end Go.Proofs.YtelhdkidnhfnbabGreatDoor
