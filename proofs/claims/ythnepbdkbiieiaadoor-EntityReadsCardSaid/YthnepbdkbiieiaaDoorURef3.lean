/-
  The document's clean text; beginnings, the program's and the document's. Condition: a length within 2^40.
-/
import Derived.Test.YthnepbdkbiieiaaDoorURef2
namespace Go.Proofs.YthnepbdkbiieiaaDoor
open Go.RowKit
open Go.Lib (decodeL encodeRune runeCells)

def RCleanRel (R : List Int) (w : World) (u4 u5 u6 : Value) (W : World) : Prop :=
  ∃ (k : Nat) (o : List Int × Bool), k ≤ R.length ∧ o = (R.take k).foldl cleanStep ([], false) ∧ u6 = .int .i64 (k : Int) ∧ u5 = .bool o.2 ∧ Own W w.heap.size 21 u4 (rvs o.1) ∧ Below w.heap.size w W
theorem take_snoc_fold {R : List Int} {k : Nat} (h : k < R.length) : (R.take (k + 1)).foldl cleanStep ([], false) = cleanStep ((R.take k).foldl cleanStep ([], false)) R[k] := by
  rw [List.take_succ_eq_append_getElem h, foldl_snoc]
/-! ### beginnings -/
def RCutRel (l : List UInt8) (n : Int) (u : Value) : Prop := ∃ k : Nat, k ≤ l.length ∧ (k = 0 ∨ (k : Int) ≤ n) ∧ cutN l n = k + cutN (l.drop k) (n - k) ∧ u = .int .i64 (k : Int)
theorem cut_stop {l : List UInt8} {n : Int} {k : Nat} (h : cutN l n = k + cutN (l.drop k) (n - k)) (hk : k < l.length) (hn : n - k < ((decodeL (l.drop k)).2 : Int)) : cutN l n = k := by
  rw [h, cutN_step (drop_ne hk), if_pos hn]
  rfl
theorem cut_on {l : List UInt8} {n : Int} {k : Nat} (h : cutN l n = k + cutN (l.drop k) (n - k)) (hk : k < l.length) (hn : ¬ n - k < ((decodeL (l.drop k)).2 : Int)) :
    cutN l n = (k + (decodeL (l.drop k)).2) + cutN (l.drop (k + (decodeL (l.drop k)).2)) (n - ((k + (decodeL (l.drop k)).2 : Nat) : Int)) := by
  rw [cutN_step (drop_ne hk), if_neg hn, List.drop_drop] at h
  rw [h, show n - ((k + (decodeL (l.drop k)).2 : Nat) : Int) = n - k - ((decodeL (l.drop k)).2 : Int) by omega]
  omega
theorem cut_end {l : List UInt8} {n : Int} {k : Nat} (h : cutN l n = k + cutN (l.drop k) (n - k)) (hk : ¬ k < l.length) : cutN l n = k := by
  rw [h, List.drop_eq_nil_of_le (by omega), cutN_nil]
  rfl
def CutRel (l : List UInt8) (n : Int) (w : World) (u : Value) (W : World) : Prop :=
  ∃ k e : Nat, k ≤ l.length ∧ cutN l n = e + cutN (l.drop e) (n - e) ∧ ((k = 0 ∧ e = 0) ∨ (e < l.length ∧ (e : Int) ≤ n ∧ k = e + (decodeL (l.drop e)).2)) ∧ u = .int .i64 (e : Int) ∧ W = w.iter (str l) k
set_option maxHeartbeats 1600000 in
theorem cut_any (l : List UInt8) (n : Int) (w : World) :
    Calls Tryd.prog 61 #[.string (str l), .int .i64 n] w (Made w (.string (str (l.take (cutN l n))))) := by
  by_cases hln : (l.length : Int) ≤ n
  · have hfin : l.take (cutN l n) = l := by rw [cutN_all l n hln, List.take_length]
    have HFI := Lib.hid hfin
    clear hfin
    go_enter Tryd.func61, Tryd.ntmps61
    go_wp2_with fail
    go_ret
    exact ⟨by rw [HFI.out]; rfl, Below.refl _ _⟩
  · have hln2 : n < (l.length : Int) := by omega
    go_enter Tryd.func61, Tryd.ntmps61
    go_wp2_with fail
    go_loopw [5] (CutRel l n w) (fun _ wr => l.length - wr.iterPos w.heap.size)
    case atStart => exact ⟨0, 0, Nat.zero_le _, by simp, .inl ⟨rfl, rfl⟩, rfl, rfl⟩
    case round =>
      obtain ⟨k, e, hk, hcut, hke, rfl, rfl⟩ := hrel
      have hel : e ≤ l.length := by omega
      have hslf := fun W => slf l e hel W
      by_cases hkl : k < l.length
      · have hnx := fun ty => nxt_it w l k ty hkl
        have hd := dec_on hkl
        have hkI : (k : Int) < (l.length : Int) := by omega
        by_cases hc : n < (k : Int)
        · have hfin : cutN l n = e := by
            rcases hke with ⟨rfl, rfl⟩ | ⟨h1, h2, h3⟩
            · have hne : l ≠ [] := fun h => by rw [h] at hkl; exact absurd hkl (by simp)
              have := (dec_bd hne).1
              rw [cutN_step hne, if_pos (by omega)]
            · exact cut_stop hcut h1 (by omega)
          have HFI := Lib.hid hfin
          generalize decodeL (l.drop k) = d at *
          clear hfin hcut hke hd
          go_wp2_with fail
          go_ret
          exact ⟨by rw [HFI.out]; rfl, (Below.refl _ _).alloc (Nat.le_refl _) _⟩
        · have hnew : cutN l n = k + cutN (l.drop k) (n - k) := by
            rcases hke with ⟨rfl, rfl⟩ | ⟨h1, h2, h3⟩
            · exact hcut
            · subst h3
              exact cut_on hcut h1 (by omega)
          have HN := Lib.hid hnew
          have HD := Lib.hid hd
          clear hnew hcut hke hd
          obtain ⟨d, hdd⟩ : ∃ d, d = decodeL (l.drop k) := ⟨_, rfl⟩
          have HDD := Lib.hid hdd
          rw [← hdd] at hnx
          clear hdd
          go_wp2_with fail
          go_roundw
          case rel => exact ⟨k + d.2, k, by rw [HDD.out]; exact HD.out.2, HN.out, .inr ⟨hkl, by omega, by rw [HDD.out]⟩, rfl, rfl⟩
          case measure =>
            simp only [World.iterPos_iter]
            have := HD.out
            have e := HDD.out
            rw [← e] at this
            omega
      · have hnx := fun ty => nxt_itno w l k ty hkl
        have hfin : cutN l n = e := by
          rcases hke with ⟨rfl, rfl⟩ | ⟨h1, h2, h3⟩
          · exact cut_end hcut hkl
          · exact cut_stop hcut h1 (by omega)
        have HFI := Lib.hid hfin
        clear hfin hcut hke
        go_wp2_with fail
        go_ret
        exact ⟨by rw [HFI.out]; rfl, (Below.refl _ _).alloc (Nat.le_refl _) _⟩
end Go.Proofs.YthnepbdkbiieiaaDoor
