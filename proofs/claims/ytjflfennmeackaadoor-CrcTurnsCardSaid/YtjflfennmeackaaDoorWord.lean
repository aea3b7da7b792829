/-
  num.Word and the document's own: the bytes of a word. Condition: the word is one.
-/
import Derived.Test.YtjflfennmeackaaDoorMemB
import Derived.Test.YtjflfennmeackaaDoorVarint
namespace Go.Proofs.YtjflfennmeackaaDoor
open Go.RowKit

/-- The bytes of a word. -/
def wordB (n : Nat) : List UInt8 := [UInt8.ofNat (n % 256), UInt8.ofNat (n / 256 % 256), UInt8.ofNat (n / 65536 % 256), UInt8.ofNat (n / 16777216 % 256)]

theorem wordB_vals (n : Nat) : bvs (wordB n) = [.int .u8 ((n % 256 : Nat) : Int), .int .u8 ((n / 256 % 256 : Nat) : Int), .int .u8 ((n / 65536 % 256 : Nat) : Int), .int .u8 ((n / 16777216 % 256 : Nat) : Int)] := by
  unfold wordB bvs
  simp only [List.map_cons, List.map_nil]
  rw [u8v_ofNat _ (by omega), u8v_ofNat _ (by omega), u8v_ofNat _ (by omega), u8v_ofNat _ (by omega)]

theorem own_lit {w : World} {e : TypeId} (xs : List Value) (cs : Array Value) (h : cs.toList = xs) (hm : xs.length ≤ maxLen) : Own (w.alloc (.cells cs e)) w.heap.size e (.slice (some ⟨w.heap.size, 0, none⟩) xs.length xs.length) xs := by
  subst h
  exact World.ownsRow_lit w cs cs.toList.length (Nat.le_refl _) hm (by simp)

theorem word_fresh {w : World} {n : Nat} {a b c d : Int} (ha : a = ((n % 256 : Nat) : Int)) (hb : b = ((n / 256 % 256 : Nat) : Int)) (hc : c = ((n / 65536 % 256 : Nat) : Int)) (hd : d = ((n / 16777216 % 256 : Nat) : Int)) :
    Fresh 5 w (bvs (wordB n)) (fun v => v) (.returned (.slice (some ⟨w.heap.size, 0, none⟩) 4 4)) (w.alloc (.cells #[.int .u8 a, .int .u8 b, .int .u8 c, .int .u8 d] 5)) := by
  subst ha hb hc hd
  exact ⟨_, rfl, own_lit (bvs (wordB n)) _ (by rw [wordB_vals]) (by rw [bvs_length]; simp [wordB]; unfold maxLen; omega), (Below.refl _ _).alloc (Nat.le_refl _) _⟩

set_option maxHeartbeats 400000 in
theorem word_any (n : Nat) (w : World) (h : (n : Int) < 4294967296) :
    Calls Tryd.prog 17 #[.int .u32 (n : Int)] w (Fresh 5 w (bvs (wordB n)) fun v => v) := by
  go_enter Tryd.func17, Tryd.ntmps17
  go_wp2
  go_ret
  exact word_fresh (by omega) (by omega) (by omega) (by omega)

set_option maxHeartbeats 400000 in
theorem rword_any (n : Nat) (w : World) (h : (n : Int) < 4294967296) :
    Calls Tryd.prog 20 #[.int .u32 (n : Int)] w (Fresh 5 w (bvs (wordB n)) fun v => v) := by
  go_enter Tryd.func20, Tryd.ntmps20
  go_wp2
  go_ret
  exact word_fresh (by omega) (by omega) (by omega) (by omega)

end Go.Proofs.YtjflfennmeackaaDoor
