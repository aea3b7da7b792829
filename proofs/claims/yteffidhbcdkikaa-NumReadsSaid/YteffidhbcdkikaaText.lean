/-
  num.Text, num.Word and the document's own: the bytes of texts and words. Conditions: a text has at most 65536 bytes (else: what is answered beside the error).
-/
import Derived.Test.YteffidhbcdkikaaRefNum
import Derived.Test.YteffidhbcdkikaaMemB
namespace Go.Proofs.Yteffidhbcdkikaa
open Go.RowKit

/-- The bytes of a text. -/
def textB (s : List UInt8) : List UInt8 := numB (s.length : Int) ++ s
/-- The bytes of a word. -/
def wordB (n : Nat) : List UInt8 := [UInt8.ofNat (n % 256), UInt8.ofNat (n / 256 % 256), UInt8.ofNat (n / 65536 % 256), UInt8.ofNat (n / 16777216 % 256)]

theorem wordB_vals (n : Nat) : bvs (wordB n) = [.int .u8 ((n % 256 : Nat) : Int), .int .u8 ((n / 256 % 256 : Nat) : Int), .int .u8 ((n / 65536 % 256 : Nat) : Int), .int .u8 ((n / 16777216 % 256 : Nat) : Int)] := by
  unfold wordB bvs
  simp only [List.map_cons, List.map_nil]
  rw [u8v_ofNat _ (by omega), u8v_ofNat _ (by omega), u8v_ofNat _ (by omega), u8v_ofNat _ (by omega)]

theorem own_lit {w : World} {e : TypeId} (xs : List Value) (cs : Array Value) (h : cs.toList = xs) (hm : xs.length ≤ maxLen) : Own (w.alloc (.cells cs e)) w.heap.size e (.slice (some ⟨w.heap.size, 0, none⟩) xs.length xs.length) xs := by
  subst h
  exact World.ownsRow_lit w cs cs.toList.length (Nat.le_refl _) hm (by simp)

theorem word_fresh {w : World} {n : Nat} {a b c d : Int} (ha : a = ((n % 256 : Nat) : Int)) (hb : b = ((n / 256 % 256 : Nat) : Int)) (hc : c = ((n / 65536 % 256 : Nat) : Int)) (hd : d = ((n / 16777216 % 256 : Nat) : Int)) :
    Fresh 5 w (bvs (wordB n)) (fun v => v) (.returned (.slice (some ⟨w.heap.size, 0, none⟩) 4 4)) (w.alloc (.cells #[.int .u8 a, .int .u8 b, .int .u8 c, .int .u8 d] 5)) := by
  subst ha hb hc hd
  exact ⟨_, rfl, own_lit (bvs (wordB n)) _ (by rw [wordB_vals]) (by rw [bvs_length]; simp [wordB]; unfold maxLen; omega), (Below.refl _ _).alloc (Nat.le_refl _) _⟩

set_option maxHeartbeats 400000 in
theorem word_any (n : Nat) (w : World) (h : (n : Int) < 4294967296) :
    Calls Try.prog 14 #[.int .u32 (n : Int)] w (Fresh 5 w (bvs (wordB n)) fun v => v) := by
  go_enter Try.func14, Try.ntmps14
  go_wp2
  go_ret
  exact word_fresh (by omega) (by omega) (by omega) (by omega)

set_option maxHeartbeats 400000 in
theorem rword_any (n : Nat) (w : World) (h : (n : Int) < 4294967296) :
    Calls Try.prog 15 #[.int .u32 (n : Int)] w (Fresh 5 w (bvs (wordB n)) fun v => v) := by
  go_enter Try.func15, Try.ntmps15
  go_wp2
  go_ret
  exact word_fresh (by omega) (by omega) (by omega) (by omega)

set_option maxHeartbeats 400000 in
theorem text_long (s : ByteArray) (w : World) (h : 65536 < (s.size : Int)) :
    Calls Try.prog 13 #[.string s] w fun e w' => e = .returned (.tuple #[.slice none 0 0, .int .i64 3]) ∧ w = w' := by
  go_enter Try.func13, Try.ntmps13
  go_wp2
  go_ret2
  exact ⟨rfl, rfl⟩

set_option maxHeartbeats 400000 in
theorem text_any (s : ByteArray) (w : World) (h : (s.size : Int) ≤ 65536) :
    Calls Try.prog 13 #[.string s] w (Fresh 5 w (bvs (textB s.data.toList)) fun v => .tuple #[v, .int .i64 0]) := by
  go_enter Try.func13, Try.ntmps13
  go_wp2_with fail
  refine (put_any _ _ (by omega) (by omega)).mono ?_
  rintro e w1 ⟨v, rfl, hown, hb⟩
  go_wp2_with (at_builtin; go_must (refine wpList_append_str w1 rfl (.tmp 15) (.tmp 16) _ _ rfl w.heap.size 5 Try.underlying22 Try.underlying9 Try.u8info _ _ rfl (by exact hown) s rfl (by have := (numB_len (s.size : Int)).2; omega) hb.size ?_); intro v2 w2 hown2 hg2 hb2)
  go_ret2
  exact ⟨v2, rfl, hown2, hb.trans hb2⟩

set_option maxHeartbeats 400000 in
theorem rtext_any (s : ByteArray) (w : World) (h : (s.size : Int) ≤ 65536) :
    Calls Try.prog 17 #[.string s] w (Fresh 5 w (bvs (textB s.data.toList)) fun v => v) := by
  go_enter Try.func17, Try.ntmps17
  go_wp2_with fail
  refine (rput_any _ _ (by omega) (by omega)).mono ?_
  rintro e w1 ⟨v, rfl, hown, hb⟩
  go_wp2_with (at_builtin; go_must (refine wpList_append_str w1 rfl (.tmp 5) (.tmp 6) _ _ rfl w.heap.size 5 Try.underlying22 Try.underlying9 Try.u8info _ _ rfl (by exact hown) s rfl (by have := (numB_len (s.size : Int)).2; omega) hb.size ?_); intro v2 w2 hown2 hg2 hb2)
  go_ret
  exact ⟨v2, rfl, hown2, hb.trans hb2⟩
end Go.Proofs.Yteffidhbcdkikaa
