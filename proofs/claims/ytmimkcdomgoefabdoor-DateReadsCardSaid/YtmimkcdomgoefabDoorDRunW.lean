/-
  date.reader.run, at digits, at letters, at one sign. Conditions: the text takes at most 2^47 bytes, at most 1000 runes are taken.
-/
import Derived.Test.YtmimkcdomgoefabDoorDRun
namespace Go.Proofs.YtmimkcdomgoefabDoor
open Go.RowKit

def RunPost (w : World) (g : Nat) (p : Nat → Bool) (least most : Nat) (l : List UInt8) (bad : Bool) (e : Ending) (w' : World) : Prop :=
  e = .returned (.string (str (runT p least most l))) ∧ Blk w' g 37 #[.string (str (runL p least most l)), .bool (runB p least most l bad)] ∧ w.grownBy w' (some g)

def RunRel (p : Nat → Bool) (most : Nat) (l : List UInt8) (w : World) (n end_ : Value) (w' : World) : Prop :=
  ∃ k : Nat, Led p most l k ∧ w' = w.iter (str l) k ∧ n = .int .i64 (k : Int) ∧ end_ = .int .i64 (l.length : Int)

theorem Blk.iter {w : World} {g : Nat} {t : TypeId} {cs : Array Value} (h : Blk w g t cs) (s : ByteArray) (n q : Nat) : Blk ((w.drewN n).iter s q) g t cs :=
  Blk.alloc (w := w.drewN n) h (.stringIter s q)
theorem grown_iter (w : World) (g : Nat) (s : ByteArray) (n q : Nat) : w.grownBy ((w.drewN n).iter s q) (some g) :=
  World.grownBy.trans (b := w.drewN n) ⟨rfl, rfl, rfl, Nat.le_refl _, fun _ _ _ => rfl⟩ (World.grownBy_alloc (w.drewN n) (.stringIter s q) (some g))

theorem runPost_short {w w' : World} {g : Nat} {p : Nat → Bool} {least most k : Nat} {l : List UInt8} {bad : Bool} (hlead : lead p most l = k) (hs : k < least)
    (hb : Blk w' g 37 #[.string (str l), .bool true]) (hg : w.grownBy w' (some g)) : RunPost w g p least most l bad (.returned (.string ⟨#[]⟩)) w' := by
  unfold RunPost runT runL runB
  rw [hlead, if_pos hs, if_pos hs, if_pos hs]
  exact ⟨rfl, hb, hg⟩
theorem runPost_full {w w' : World} {g : Nat} {p : Nat → Bool} {least most k : Nat} {l : List UInt8} {bad : Bool} (hlead : lead p most l = k) (hs : ¬ k < least)
    (hb : Blk w' g 37 #[.string (str (l.drop k)), .bool bad]) (hg : w.grownBy w' (some g)) : RunPost w g p least most l bad (.returned (.string (str (l.take k)))) w' := by
  unfold RunPost runT runL runB
  rw [hlead, if_neg hs, if_neg hs, if_neg hs]
  exact ⟨rfl, hb, hg⟩

set_option maxHeartbeats 1600000 in
theorem run_dig (g least most : Nat) (l : List UInt8) (bad : Bool) (w : World) (hb : Blk w g 37 #[.string (str l), .bool bad]) (hl : l.length ≤ 140737488351232) (hm : most ≤ 1000) :
    Calls Tryd.prog 19 #[.pointer (some ⟨g, 0, none⟩), .int .i64 (least : Int), .int .i64 (most : Int), .func (.func 20) #[] #[]] w (RunPost w g (digB) least most l bad) := by
  have c0 := hb.cell 0
  have c1 := hb.cell 1
  simp only [List.getElem?_toArray, List.getElem?_cons_succ, List.getElem?_cons_zero] at c0 c1
  have hgl := hb.lt
  have HB := Lib.hid hb
  have hlI : (l.length : Int) ≤ 140737488351232 := by omega
  have hmI : (most : Int) ≤ 1000 := by omega
  clear hb hl hm
  go_enter Tryd.func19, Tryd.ntmps19
  go_wp2_with fail
  go_quiet (fail)
  go_wp2_with fail
  have hW : ∀ q, Blk ((w.drewN nq).iter (str l) q) g 37 #[.string (str l), .bool bad] := fun q => Blk.iter HB.out (str l) nq q
  have d0 : ∀ q, ((w.drewN nq).iter (str l) q).cell? ⟨g, 0, none⟩ = some (.string (str l)) := fun q => (hW q).cell 0
  have d1 : ∀ q, ((w.drewN nq).iter (str l) q).cell? ⟨g, 1, none⟩ = some (.bool bad) := fun q => (hW q).cell 1
  have f0 : ∀ q, ((w.drewN nq).iter (str l) q).frozen? ⟨g, 0, none⟩ = false := fun q => (hW q).free 0
  have f1 : ∀ q, ((w.drewN nq).iter (str l) q).frozen? ⟨g, 1, none⟩ = false := fun q => (hW q).free 1
  have HW := Lib.hid hW
  have high : ∀ c : Nat, 128 ≤ c → digB c = false := fun c h => (dig_no c).2 (by omega)
  have HIGH := Lib.hid high
  clear high
  clear hW c0 c1
  go_loopw [9, 10] (RunRel (digB) most l (w.drewN nq)) (fun n _ _ => l.length - (intOf n).toNat)
  case atStart => exact ⟨0, led_start _ _ _, rfl, rfl, rfl⟩
  case round =>
    obtain ⟨k, hled, rfl, rfl, rfl⟩ := hrel
    have HLED := Lib.hid hled
    clear hled
    by_cases hkl : k < l.length
    · by_cases hkm : k = most
      · have hlead := led_most HLED.out hkm
        have hkmI : (k : Int) = (most : Int) := by omega
        have hnx : ∀ ty, (Instr.next (.pointer (some ⟨w.heap.size, 0, none⟩)) true ty).run Tryd.prog ((w.drewN nq).iter (str l) k) = _ := fun ty => run_next_any (w.drewN nq) (str l) k ty (by rw [str_size]; exact hkl)
        have hbq : ((k : Int) == (most : Int)) = true := by simp [hkmI]
        have HKM := Lib.hid hkm
        clear hkm hkmI
        have hst := str_take l k
        have hsd := str_drop l k
        have HLD := Lib.hid hlead
        clear hlead
        by_cases hs : (k : Int) < (least : Int)
        · have HS : k < least := by omega
          go_wp2_with fail
          go_ret
          exact runPost_short HLD.out HS (HW.out _ |>.set 1 _) ((grown_iter w g (str l) nq _).trans (grown_set _ g 1 _))
        · have HS : ¬ k < least := by omega
          have hgs : k ≤ l.length := by omega
          go_wp2_with fail
          go_ret
          exact runPost_full HLD.out HS (HW.out _ |>.set 0 _) ((grown_iter w g (str l) nq _).trans (grown_set _ g 0 _))
      · have hkmI : ¬ (k : Int) = (most : Int) := by omega
        have hbq : ((k : Int) == (most : Int)) = false := by simp [hkmI]
        have HKM := Lib.hid hkm
        have hsz : k < (str l).size := by rw [str_size]; exact hkl
        have hat : (str l)[k]'hsz = l[k] := rfl
        by_cases hasc : l[k].toNat < 128
        · have hnx : ∀ ty, (Instr.next (.pointer (some ⟨w.heap.size, 0, none⟩)) true ty).run Tryd.prog ((w.drewN nq).iter (str l) k) = .ok (.tuple #[.bool true, .int .i64 k, .int .i32 (l[k].toNat : Int)]) ((w.drewN nq).iter (str l) (k + 1)) := fun ty => run_next_ascii (w.drewN nq) (str l) k ty hsz hasc
          cases hy : (digB) l[k].toNat with
          | true =>
            have hmore := led_more HLED.out hkl hkm hy
            have HM := Lib.hid hmore
            generalize hc : l[k].toNat = c at hnx hy
            have HY := Lib.hid hy
            clear hmore hkm hsz hat hasc hc hy
            go_wp2_with (go_at_call 20; refine (isDigit_any _ _).mono ?_; rw [HY.out]; rintro e w' ⟨rfl, rfl⟩)
            go_roundw
            case rel => exact ⟨k + 1, HM.out, rfl, by go_num, rfl⟩
            case measure => simp [intOf]; omega
          | false =>
            have hlead := led_no HLED.out hkl hy
            generalize hc : l[k].toNat = c at hnx hy
            have HY := Lib.hid hy
            clear hkm hsz hat hasc hc hy
            have hst := str_take l k
            have hsd := str_drop l k
            have HLD := Lib.hid hlead
            clear hlead
            by_cases hs : (k : Int) < (least : Int)
            · have HS : k < least := by omega
              go_wp2_with (go_at_call 20; refine (isDigit_any _ _).mono ?_; rw [HY.out]; rintro e w' ⟨rfl, rfl⟩)
              go_ret
              exact runPost_short HLD.out HS (HW.out _ |>.set 1 _) ((grown_iter w g (str l) nq _).trans (grown_set _ g 1 _))
            · have HS : ¬ k < least := by omega
              have hgs : k ≤ l.length := by omega
              go_wp2_with (go_at_call 20; refine (isDigit_any _ _).mono ?_; rw [HY.out]; rintro e w' ⟨rfl, rfl⟩)
              go_ret
              exact runPost_full HLD.out HS (HW.out _ |>.set 0 _) ((grown_iter w g (str l) nq _).trans (grown_set _ g 0 _))
        · have hd := decode_high (str l) k hsz (by show 128 ≤ l[k].toNat; omega)
          have hnx : ∀ ty, (Instr.next (.pointer (some ⟨w.heap.size, 0, none⟩)) true ty).run Tryd.prog ((w.drewN nq).iter (str l) k) = .ok (.tuple #[.bool true, .int .i64 k, .int .i32 ((Utf8.decode (str l) k).1 : Int)]) ((w.drewN nq).iter (str l) (k + (Utf8.decode (str l) k).2)) := fun ty => run_next_any (w.drewN nq) (str l) k ty hsz
          have hy0 : (digB) l[k].toNat = false := HIGH.out _ (by omega)
          have hlead := led_no HLED.out hkl hy0
          generalize (Utf8.decode (str l) k).1 = c at hnx hd
          generalize k + (Utf8.decode (str l) k).2 = k2 at hnx
          have hy : (digB) c = false := HIGH.out c hd.1
          have HY := Lib.hid hy
          clear hkm hsz hat hasc hy hy0 hd
          have hst := str_take l k
          have hsd := str_drop l k
          have HLD := Lib.hid hlead
          clear hlead
          by_cases hs : (k : Int) < (least : Int)
          · have HS : k < least := by omega
            go_wp2_with (go_at_call 20; refine (isDigit_any _ _).mono ?_; rw [HY.out]; rintro e w' ⟨rfl, rfl⟩)
            go_ret
            exact runPost_short HLD.out HS (HW.out _ |>.set 1 _) ((grown_iter w g (str l) nq _).trans (grown_set _ g 1 _))
          · have HS : ¬ k < least := by omega
            have hgs : k ≤ l.length := by omega
            go_wp2_with (go_at_call 20; refine (isDigit_any _ _).mono ?_; rw [HY.out]; rintro e w' ⟨rfl, rfl⟩)
            go_ret
            exact runPost_full HLD.out HS (HW.out _ |>.set 0 _) ((grown_iter w g (str l) nq _).trans (grown_set _ g 0 _))
    · have hlead := led_end HLED.out (by omega)
      have hke : k = l.length := by have := HLED.out.1; omega
      have hnx : ∀ ty, (Instr.next (.pointer (some ⟨w.heap.size, 0, none⟩)) true ty).run Tryd.prog ((w.drewN nq).iter (str l) k) = _ := fun ty => run_next_end (w.drewN nq) (str l) k ty (by rw [str_size]; exact hkl)
      subst hke
      have hst := str_take l l.length
      have hsd := str_drop l l.length
      have HLD := Lib.hid hlead
      clear hlead
      by_cases hs : (l.length : Int) < (least : Int)
      · have HS : l.length < least := by omega
        go_wp2_with fail
        go_ret
        exact runPost_short HLD.out HS (HW.out _ |>.set 1 _) ((grown_iter w g (str l) nq _).trans (grown_set _ g 1 _))
      · have HS : ¬ l.length < least := by omega
        have hgs : l.length ≤ l.length := by omega
        go_wp2_with fail
        go_ret
        have hfin := runPost_full (bad := bad) HLD.out HS ((HW.out l.length).set 0 (.string (str (l.drop l.length)))) ((grown_iter w g (str l) nq l.length).trans (grown_set _ g 0 _))
        rw [List.take_length, List.drop_length] at hfin
        exact hfin

set_option maxHeartbeats 1600000 in
theorem run_let (g least most : Nat) (l : List UInt8) (bad : Bool) (w : World) (hb : Blk w g 37 #[.string (str l), .bool bad]) (hl : l.length ≤ 140737488351232) (hm : most ≤ 1000) :
    Calls Tryd.prog 19 #[.pointer (some ⟨g, 0, none⟩), .int .i64 (least : Int), .int .i64 (most : Int), .func (.func 26) #[] #[]] w (RunPost w g (letB) least most l bad) := by
  have c0 := hb.cell 0
  have c1 := hb.cell 1
  simp only [List.getElem?_toArray, List.getElem?_cons_succ, List.getElem?_cons_zero] at c0 c1
  have hgl := hb.lt
  have HB := Lib.hid hb
  have hlI : (l.length : Int) ≤ 140737488351232 := by omega
  have hmI : (most : Int) ≤ 1000 := by omega
  clear hb hl hm
  go_enter Tryd.func19, Tryd.ntmps19
  go_wp2_with fail
  go_quiet (fail)
  go_wp2_with fail
  have hW : ∀ q, Blk ((w.drewN nq).iter (str l) q) g 37 #[.string (str l), .bool bad] := fun q => Blk.iter HB.out (str l) nq q
  have d0 : ∀ q, ((w.drewN nq).iter (str l) q).cell? ⟨g, 0, none⟩ = some (.string (str l)) := fun q => (hW q).cell 0
  have d1 : ∀ q, ((w.drewN nq).iter (str l) q).cell? ⟨g, 1, none⟩ = some (.bool bad) := fun q => (hW q).cell 1
  have f0 : ∀ q, ((w.drewN nq).iter (str l) q).frozen? ⟨g, 0, none⟩ = false := fun q => (hW q).free 0
  have f1 : ∀ q, ((w.drewN nq).iter (str l) q).frozen? ⟨g, 1, none⟩ = false := fun q => (hW q).free 1
  have HW := Lib.hid hW
  have high : ∀ c : Nat, 128 ≤ c → letB c = false := fun c h => (let_no c).2 (by omega)
  have HIGH := Lib.hid high
  clear high
  clear hW c0 c1
  go_loopw [9, 10] (RunRel (letB) most l (w.drewN nq)) (fun n _ _ => l.length - (intOf n).toNat)
  case atStart => exact ⟨0, led_start _ _ _, rfl, rfl, rfl⟩
  case round =>
    obtain ⟨k, hled, rfl, rfl, rfl⟩ := hrel
    have HLED := Lib.hid hled
    clear hled
    by_cases hkl : k < l.length
    · by_cases hkm : k = most
      · have hlead := led_most HLED.out hkm
        have hkmI : (k : Int) = (most : Int) := by omega
        have hnx : ∀ ty, (Instr.next (.pointer (some ⟨w.heap.size, 0, none⟩)) true ty).run Tryd.prog ((w.drewN nq).iter (str l) k) = _ := fun ty => run_next_any (w.drewN nq) (str l) k ty (by rw [str_size]; exact hkl)
        have hbq : ((k : Int) == (most : Int)) = true := by simp [hkmI]
        have HKM := Lib.hid hkm
        clear hkm hkmI
        have hst := str_take l k
        have hsd := str_drop l k
        have HLD := Lib.hid hlead
        clear hlead
        by_cases hs : (k : Int) < (least : Int)
        · have HS : k < least := by omega
          go_wp2_with fail
          go_ret
          exact runPost_short HLD.out HS (HW.out _ |>.set 1 _) ((grown_iter w g (str l) nq _).trans (grown_set _ g 1 _))
        · have HS : ¬ k < least := by omega
          have hgs : k ≤ l.length := by omega
          go_wp2_with fail
          go_ret
          exact runPost_full HLD.out HS (HW.out _ |>.set 0 _) ((grown_iter w g (str l) nq _).trans (grown_set _ g 0 _))
      · have hkmI : ¬ (k : Int) = (most : Int) := by omega
        have hbq : ((k : Int) == (most : Int)) = false := by simp [hkmI]
        have HKM := Lib.hid hkm
        have hsz : k < (str l).size := by rw [str_size]; exact hkl
        have hat : (str l)[k]'hsz = l[k] := rfl
        by_cases hasc : l[k].toNat < 128
        · have hnx : ∀ ty, (Instr.next (.pointer (some ⟨w.heap.size, 0, none⟩)) true ty).run Tryd.prog ((w.drewN nq).iter (str l) k) = .ok (.tuple #[.bool true, .int .i64 k, .int .i32 (l[k].toNat : Int)]) ((w.drewN nq).iter (str l) (k + 1)) := fun ty => run_next_ascii (w.drewN nq) (str l) k ty hsz hasc
          cases hy : (letB) l[k].toNat with
          | true =>
            have hmore := led_more HLED.out hkl hkm hy
            have HM := Lib.hid hmore
            generalize hc : l[k].toNat = c at hnx hy
            have HY := Lib.hid hy
            clear hmore hkm hsz hat hasc hc hy
            go_wp2_with (go_at_call 26; refine (isLetter_any _ _).mono ?_; rw [HY.out]; rintro e w' ⟨rfl, rfl⟩)
            go_roundw
            case rel => exact ⟨k + 1, HM.out, rfl, by go_num, rfl⟩
            case measure => simp [intOf]; omega
          | false =>
            have hlead := led_no HLED.out hkl hy
            generalize hc : l[k].toNat = c at hnx hy
            have HY := Lib.hid hy
            clear hkm hsz hat hasc hc hy
            have hst := str_take l k
            have hsd := str_drop l k
            have HLD := Lib.hid hlead
            clear hlead
            by_cases hs : (k : Int) < (least : Int)
            · have HS : k < least := by omega
              go_wp2_with (go_at_call 26; refine (isLetter_any _ _).mono ?_; rw [HY.out]; rintro e w' ⟨rfl, rfl⟩)
              go_ret
              exact runPost_short HLD.out HS (HW.out _ |>.set 1 _) ((grown_iter w g (str l) nq _).trans (grown_set _ g 1 _))
            · have HS : ¬ k < least := by omega
              have hgs : k ≤ l.length := by omega
              go_wp2_with (go_at_call 26; refine (isLetter_any _ _).mono ?_; rw [HY.out]; rintro e w' ⟨rfl, rfl⟩)
              go_ret
              exact runPost_full HLD.out HS (HW.out _ |>.set 0 _) ((grown_iter w g (str l) nq _).trans (grown_set _ g 0 _))
        · have hd := decode_high (str l) k hsz (by show 128 ≤ l[k].toNat; omega)
          have hnx : ∀ ty, (Instr.next (.pointer (some ⟨w.heap.size, 0, none⟩)) true ty).run Tryd.prog ((w.drewN nq).iter (str l) k) = .ok (.tuple #[.bool true, .int .i64 k, .int .i32 ((Utf8.decode (str l) k).1 : Int)]) ((w.drewN nq).iter (str l) (k + (Utf8.decode (str l) k).2)) := fun ty => run_next_any (w.drewN nq) (str l) k ty hsz
          have hy0 : (letB) l[k].toNat = false := HIGH.out _ (by omega)
          have hlead := led_no HLED.out hkl hy0
          generalize (Utf8.decode (str l) k).1 = c at hnx hd
          generalize k + (Utf8.decode (str l) k).2 = k2 at hnx
          have hy : (letB) c = false := HIGH.out c hd.1
          have HY := Lib.hid hy
          clear hkm hsz hat hasc hy hy0 hd
          have hst := str_take l k
          have hsd := str_drop l k
          have HLD := Lib.hid hlead
          clear hlead
          by_cases hs : (k : Int) < (least : Int)
          · have HS : k < least := by omega
            go_wp2_with (go_at_call 26; refine (isLetter_any _ _).mono ?_; rw [HY.out]; rintro e w' ⟨rfl, rfl⟩)
            go_ret
            exact runPost_short HLD.out HS (HW.out _ |>.set 1 _) ((grown_iter w g (str l) nq _).trans (grown_set _ g 1 _))
          · have HS : ¬ k < least := by omega
            have hgs : k ≤ l.length := by omega
            go_wp2_with (go_at_call 26; refine (isLetter_any _ _).mono ?_; rw [HY.out]; rintro e w' ⟨rfl, rfl⟩)
            go_ret
            exact runPost_full HLD.out HS (HW.out _ |>.set 0 _) ((grown_iter w g (str l) nq _).trans (grown_set _ g 0 _))
    · have hlead := led_end HLED.out (by omega)
      have hke : k = l.length := by have := HLED.out.1; omega
      have hnx : ∀ ty, (Instr.next (.pointer (some ⟨w.heap.size, 0, none⟩)) true ty).run Tryd.prog ((w.drewN nq).iter (str l) k) = _ := fun ty => run_next_end (w.drewN nq) (str l) k ty (by rw [str_size]; exact hkl)
      subst hke
      have hst := str_take l l.length
      have hsd := str_drop l l.length
      have HLD := Lib.hid hlead
      clear hlead
      by_cases hs : (l.length : Int) < (least : Int)
      · have HS : l.length < least := by omega
        go_wp2_with fail
        go_ret
        exact runPost_short HLD.out HS (HW.out _ |>.set 1 _) ((grown_iter w g (str l) nq _).trans (grown_set _ g 1 _))
      · have HS : ¬ l.length < least := by omega
        have hgs : l.length ≤ l.length := by omega
        go_wp2_with fail
        go_ret
        have hfin := runPost_full (bad := bad) HLD.out HS ((HW.out l.length).set 0 (.string (str (l.drop l.length)))) ((grown_iter w g (str l) nq l.length).trans (grown_set _ g 0 _))
        rw [List.take_length, List.drop_length] at hfin
        exact hfin

def sgnB (sign c : Nat) : Bool := decide (c = sign)
set_option maxHeartbeats 400000 in
theorem hasf_any (c sign b : Nat) (w : World) (hc : w.cell? ⟨b, 0, none⟩ = some (.int .i32 (sign : Int))) :
    Calls Tryd.prog 39 #[.int .i32 (c : Int), .pointer (some ⟨b, 0, none⟩)] w (Pure w (.bool (sgnB sign c))) := by
  by_cases h : c = sign
  · have hI : (c : Int) = (sign : Int) := by omega
    have hd : sgnB sign c = true := decide_eq_true h
    have hb : ((c : Int) == (sign : Int)) = true := by simp [hI]
    have HD := Lib.hid hd
    clear hd h hI
    go_enter Tryd.func39, Tryd.ntmps39
    go_wp2
    go_ret
    exact ⟨by rw [HD.out]; rfl, rfl⟩
  · have hI : ¬ (c : Int) = (sign : Int) := by omega
    have hd : sgnB sign c = false := decide_eq_false h
    have hb : ((c : Int) == (sign : Int)) = false := by simp [hI]
    have HD := Lib.hid hd
    clear hd h hI
    go_enter Tryd.func39, Tryd.ntmps39
    go_wp2
    go_ret
    exact ⟨by rw [HD.out]; rfl, rfl⟩

set_option maxHeartbeats 1600000 in
theorem run_sign (g least most : Nat) (l : List UInt8) (bad : Bool) (w : World) (sign b : Nat) (hs : sign < 128) (hbx : Blk w b 21 #[.int .i32 (sign : Int)]) (hb : Blk w g 37 #[.string (str l), .bool bad]) (hl : l.length ≤ 140737488351232) (hm : most ≤ 1000) :
    Calls Tryd.prog 19 #[.pointer (some ⟨g, 0, none⟩), .int .i64 (least : Int), .int .i64 (most : Int), .func (.func 39) #[] #[.pointer (some ⟨b, 0, none⟩)]] w (RunPost w g (sgnB sign) least most l bad) := by
  have c0 := hb.cell 0
  have c1 := hb.cell 1
  simp only [List.getElem?_toArray, List.getElem?_cons_succ, List.getElem?_cons_zero] at c0 c1
  have hgl := hb.lt
  have HB := Lib.hid hb
  have hlI : (l.length : Int) ≤ 140737488351232 := by omega
  have hmI : (most : Int) ≤ 1000 := by omega
  clear hb hl hm
  go_enter Tryd.func19, Tryd.ntmps19
  go_wp2_with fail
  go_quiet (fail)
  go_wp2_with fail
  have hW : ∀ q, Blk ((w.drewN nq).iter (str l) q) g 37 #[.string (str l), .bool bad] := fun q => Blk.iter HB.out (str l) nq q
  have d0 : ∀ q, ((w.drewN nq).iter (str l) q).cell? ⟨g, 0, none⟩ = some (.string (str l)) := fun q => (hW q).cell 0
  have d1 : ∀ q, ((w.drewN nq).iter (str l) q).cell? ⟨g, 1, none⟩ = some (.bool bad) := fun q => (hW q).cell 1
  have f0 : ∀ q, ((w.drewN nq).iter (str l) q).frozen? ⟨g, 0, none⟩ = false := fun q => (hW q).free 0
  have f1 : ∀ q, ((w.drewN nq).iter (str l) q).frozen? ⟨g, 1, none⟩ = false := fun q => (hW q).free 1
  have HW := Lib.hid hW
  have high : ∀ c : Nat, 128 ≤ c → sgnB sign c = false := fun c h => decide_eq_false (by omega)
  have HIGH := Lib.hid high
  have cb : ∀ q, ((w.drewN nq).iter (str l) q).cell? ⟨b, 0, none⟩ = some (.int .i32 (sign : Int)) := fun q => (Blk.iter hbx (str l) nq q).cell 0
  have CB := Lib.hid cb
  clear high cb hbx hs
  clear hW c0 c1
  go_loopw [9, 10] (RunRel (sgnB sign) most l (w.drewN nq)) (fun n _ _ => l.length - (intOf n).toNat)
  case atStart => exact ⟨0, led_start _ _ _, rfl, rfl, rfl⟩
  case round =>
    obtain ⟨k, hled, rfl, rfl, rfl⟩ := hrel
    have HLED := Lib.hid hled
    clear hled
    by_cases hkl : k < l.length
    · by_cases hkm : k = most
      · have hlead := led_most HLED.out hkm
        have hkmI : (k : Int) = (most : Int) := by omega
        have hnx : ∀ ty, (Instr.next (.pointer (some ⟨w.heap.size, 0, none⟩)) true ty).run Tryd.prog ((w.drewN nq).iter (str l) k) = _ := fun ty => run_next_any (w.drewN nq) (str l) k ty (by rw [str_size]; exact hkl)
        have hbq : ((k : Int) == (most : Int)) = true := by simp [hkmI]
        have HKM := Lib.hid hkm
        clear hkm hkmI
        have hst := str_take l k
        have hsd := str_drop l k
        have HLD := Lib.hid hlead
        clear hlead
        by_cases hs : (k : Int) < (least : Int)
        · have HS : k < least := by omega
          go_wp2_with fail
          go_ret
          exact runPost_short HLD.out HS (HW.out _ |>.set 1 _) ((grown_iter w g (str l) nq _).trans (grown_set _ g 1 _))
        · have HS : ¬ k < least := by omega
          have hgs : k ≤ l.length := by omega
          go_wp2_with fail
          go_ret
          exact runPost_full HLD.out HS (HW.out _ |>.set 0 _) ((grown_iter w g (str l) nq _).trans (grown_set _ g 0 _))
      · have hkmI : ¬ (k : Int) = (most : Int) := by omega
        have hbq : ((k : Int) == (most : Int)) = false := by simp [hkmI]
        have HKM := Lib.hid hkm
        have hsz : k < (str l).size := by rw [str_size]; exact hkl
        have hat : (str l)[k]'hsz = l[k] := rfl
        by_cases hasc : l[k].toNat < 128
        · have hnx : ∀ ty, (Instr.next (.pointer (some ⟨w.heap.size, 0, none⟩)) true ty).run Tryd.prog ((w.drewN nq).iter (str l) k) = .ok (.tuple #[.bool true, .int .i64 k, .int .i32 (l[k].toNat : Int)]) ((w.drewN nq).iter (str l) (k + 1)) := fun ty => run_next_ascii (w.drewN nq) (str l) k ty hsz hasc
          cases hy : (sgnB sign) l[k].toNat with
          | true =>
            have hmore := led_more HLED.out hkl hkm hy
            have HM := Lib.hid hmore
            generalize hc : l[k].toNat = c at hnx hy
            have HY := Lib.hid hy
            clear hmore hkm hsz hat hasc hc hy
            go_wp2_with (go_at_call 39; refine (hasf_any _ sign b _ (by exact CB.out _)).mono ?_; rw [HY.out]; rintro e w' ⟨rfl, rfl⟩)
            go_roundw
            case rel => exact ⟨k + 1, HM.out, rfl, by go_num, rfl⟩
            case measure => simp [intOf]; omega
          | false =>
            have hlead := led_no HLED.out hkl hy
            generalize hc : l[k].toNat = c at hnx hy
            have HY := Lib.hid hy
            clear hkm hsz hat hasc hc hy
            have hst := str_take l k
            have hsd := str_drop l k
            have HLD := Lib.hid hlead
            clear hlead
            by_cases hs : (k : Int) < (least : Int)
            · have HS : k < least := by omega
              go_wp2_with (go_at_call 39; refine (hasf_any _ sign b _ (by exact CB.out _)).mono ?_; rw [HY.out]; rintro e w' ⟨rfl, rfl⟩)
              go_ret
              exact runPost_short HLD.out HS (HW.out _ |>.set 1 _) ((grown_iter w g (str l) nq _).trans (grown_set _ g 1 _))
            · have HS : ¬ k < least := by omega
              have hgs : k ≤ l.length := by omega
              go_wp2_with (go_at_call 39; refine (hasf_any _ sign b _ (by exact CB.out _)).mono ?_; rw [HY.out]; rintro e w' ⟨rfl, rfl⟩)
              go_ret
              exact runPost_full HLD.out HS (HW.out _ |>.set 0 _) ((grown_iter w g (str l) nq _).trans (grown_set _ g 0 _))
        · have hd := decode_high (str l) k hsz (by show 128 ≤ l[k].toNat; omega)
          have hnx : ∀ ty, (Instr.next (.pointer (some ⟨w.heap.size, 0, none⟩)) true ty).run Tryd.prog ((w.drewN nq).iter (str l) k) = .ok (.tuple #[.bool true, .int .i64 k, .int .i32 ((Utf8.decode (str l) k).1 : Int)]) ((w.drewN nq).iter (str l) (k + (Utf8.decode (str l) k).2)) := fun ty => run_next_any (w.drewN nq) (str l) k ty hsz
          have hy0 : (sgnB sign) l[k].toNat = false := HIGH.out _ (by omega)
          have hlead := led_no HLED.out hkl hy0
          generalize (Utf8.decode (str l) k).1 = c at hnx hd
          generalize k + (Utf8.decode (str l) k).2 = k2 at hnx
          have hy : (sgnB sign) c = false := HIGH.out c hd.1
          have HY := Lib.hid hy
          clear hkm hsz hat hasc hy hy0 hd
          have hst := str_take l k
          have hsd := str_drop l k
          have HLD := Lib.hid hlead
          clear hlead
          by_cases hs : (k : Int) < (least : Int)
          · have HS : k < least := by omega
            go_wp2_with (go_at_call 39; refine (hasf_any _ sign b _ (by exact CB.out _)).mono ?_; rw [HY.out]; rintro e w' ⟨rfl, rfl⟩)
            go_ret
            exact runPost_short HLD.out HS (HW.out _ |>.set 1 _) ((grown_iter w g (str l) nq _).trans (grown_set _ g 1 _))
          · have HS : ¬ k < least := by omega
            have hgs : k ≤ l.length := by omega
            go_wp2_with (go_at_call 39; refine (hasf_any _ sign b _ (by exact CB.out _)).mono ?_; rw [HY.out]; rintro e w' ⟨rfl, rfl⟩)
            go_ret
            exact runPost_full HLD.out HS (HW.out _ |>.set 0 _) ((grown_iter w g (str l) nq _).trans (grown_set _ g 0 _))
    · have hlead := led_end HLED.out (by omega)
      have hke : k = l.length := by have := HLED.out.1; omega
      have hnx : ∀ ty, (Instr.next (.pointer (some ⟨w.heap.size, 0, none⟩)) true ty).run Tryd.prog ((w.drewN nq).iter (str l) k) = _ := fun ty => run_next_end (w.drewN nq) (str l) k ty (by rw [str_size]; exact hkl)
      subst hke
      have hst := str_take l l.length
      have hsd := str_drop l l.length
      have HLD := Lib.hid hlead
      clear hlead
      by_cases hs : (l.length : Int) < (least : Int)
      · have HS : l.length < least := by omega
        go_wp2_with fail
        go_ret
        exact runPost_short HLD.out HS (HW.out _ |>.set 1 _) ((grown_iter w g (str l) nq _).trans (grown_set _ g 1 _))
      · have HS : ¬ l.length < least := by omega
        have hgs : l.length ≤ l.length := by omega
        go_wp2_with fail
        go_ret
        have hfin := runPost_full (bad := bad) HLD.out HS ((HW.out l.length).set 0 (.string (str (l.drop l.length)))) ((grown_iter w g (str l) nq l.length).trans (grown_set _ g 0 _))
        rw [List.take_length, List.drop_length] at hfin
        exact hfin
end Go.Proofs.YtmimkcdomgoefabDoor
