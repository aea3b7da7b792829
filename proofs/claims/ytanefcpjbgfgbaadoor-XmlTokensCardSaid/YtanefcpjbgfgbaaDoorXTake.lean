/-
  The reader's take (xml): the runes that stand first of a kind. Condition: the reader lies in memory, four cells.
-/
import Derived.Test.YtanefcpjbgfgbaaDoorXRefScan
import Derived.Test.YtanefcpjbgfgbaaDoorMgE
namespace Go.Proofs.YtanefcpjbgfgbaaDoor
open Go.RowKit
open Go.Lib (decodeL encodeRune)

/-- The reader: what is left, its tokens, its Builder's two cells. -/
def RdrAt (w : World) (g : Nat) (l : List UInt8) (tk p bf : Value) : Prop := Blk w g 45 #[.string (str l), tk, p, bf]
def KeepsR (g : Nat) (w w' : World) : Prop := w.grownBy w' (some g)
theorem KeepsR.trans {g : Nat} {a b c : World} (h : KeepsR g a b) (k : KeepsR g b c) : KeepsR g a c :=
  ⟨k.os.trans h.os, k.tape.trans h.tape, k.output.trans h.output, Nat.le_trans h.size k.size, fun x hx hne => (k.block x (Nat.lt_of_lt_of_le hx h.size) hne).trans (h.block x hx hne)⟩
/-- A kind of runes that is seen by bytes. -/
def ByByte (p : Int → Bool) (pb : UInt8 → Bool) : Prop := ∀ (l : List UInt8) (k : Nat) (h : k < l.length), if p ((decodeL (l.drop k)).1 : Int) = true then ((l.drop k).take (decodeL (l.drop k)).2).all pb = true else pb l[k] = false
theorem bybyte_low {p : Int → Bool} (hp : ∀ c, p c = true → 0 ≤ c ∧ c < 128) : ByByte p (fun b : UInt8 => p (b.toNat : Int)) := by
  intro l k h
  have hk := dec_kind hp h
  by_cases hc : p ((decodeL (l.drop k)).1 : Int) = true
  · rw [if_pos hc]
    have := hp _ hc
    obtain ⟨h1, h2⟩ := dec_low_at h (by omega)
    rw [h1, drop_cons h, List.take_succ_cons, List.take_zero, List.all_cons, List.all_nil, hk, hc]
    rfl
  · rw [if_neg hc]
    show p (l[k].toNat : Int) = false
    rw [hk]
    simpa using hc
/-- All but one sign of ASCII. -/
theorem bybyte_not (n : Nat) (hn : n < 128) : ByByte (fun c => c != (n : Int)) (fun b : UInt8 => b.toNat != n) := by
  intro l k h
  have hk := @dec_kind (fun c => c == (n : Int)) (fun c hc => by
    have h0 : c = (n : Int) := by simpa using hc
    omega) l k h
  by_cases hc : (((decodeL (l.drop k)).1 : Int) != (n : Int)) = true
  · rw [if_pos hc]
    by_cases hlo : (decodeL (l.drop k)).1 < 128
    · obtain ⟨h1, h2⟩ := dec_low_at h hlo
      rw [h1, drop_cons h, List.take_succ_cons, List.take_zero, List.all_cons, List.all_nil, h2, Bool.and_true]
      have h5 : ¬ ((decodeL (l.drop k)).1 : Int) = (n : Int) := by simpa using hc
      have h6 : ¬ (decodeL (l.drop k)).1 = n := by omega
      simpa using h6
    · rw [List.all_eq_true]
      intro x hx
      rw [drop_cons h] at hlo hx
      by_cases hb : l[k].toNat < 128
      · rw [Lib.decodeL_ascii _ _ hb] at hlo
        exact (hlo hb).elim
      · have := (dec_high l[k] (l.drop (k + 1)) hb).2 x hx
        have hne : ¬ x.toNat = n := by omega
        simpa using hne
  · rw [if_neg hc]
    have he : ((decodeL (l.drop k)).1 : Int) = (n : Int) := by simpa using hc
    have h2 : ((l[k].toNat : Int) == (n : Int)) = true := by rw [hk]; simpa using he
    have h3 : (l[k].toNat : Int) = (n : Int) := by simpa using h2
    have h4 : l[k].toNat = n := by omega
    show (l[k].toNat != n) = false
    rw [h4]
    simp
def TakeV (w : World) (g : Nat) (l : List UInt8) (tk p bf : Value) (pb : UInt8 → Bool) (e : Ending) (w' : World) : Prop :=
  e = .returned (.string (str (l.takeWhile pb))) ∧ RdrAt w' g (l.dropWhile pb) tk p bf ∧ KeepsR g w w'
theorem tk_split (pb : UInt8 → Bool) (l : List UInt8) {k : Nat} (hk : k ≤ l.length) (ha : (l.take k).all pb = true) (hn : ∀ h : k < l.length, pb l[k] = false) : l.takeWhile pb = l.take k ∧ l.dropWhile pb = l.drop k := by
  have h1 := tw_at pb l k hk ha hn
  have h2 : l.takeWhile pb = l.take k := by
    have := List.takeWhile_append_dropWhile (p := pb) (l := l)
    have h3 := congrArg (List.take k) this
    rw [List.take_left' h1] at h3
    exact h3
  refine ⟨h2, ?_⟩
  have := List.takeWhile_append_dropWhile (p := pb) (l := l)
  have h3 := congrArg (List.drop k) this
  rw [List.drop_left' h1] at h3
  exact h3
theorem part1_any (c : Int) (w : World) : Calls Tryd.prog 42 #[.int .i32 c] w (Pure w (.bool (c != ((60 : Nat) : Int)))) := by
  by_cases h : c = 60
  · subst h
    go_enter Tryd.func42, Tryd.ntmps42
    go_wp2_with fail
    go_ret
    exact ⟨rfl, rfl⟩
  · have hd : (c != 60) = true := by simpa using h
    rw [show ((60 : Nat) : Int) = 60 from rfl, hd]
    go_enter Tryd.func42, Tryd.ntmps42
    go_wp2_with fail
    go_ret
    exact ⟨rfl, rfl⟩
def XTkRel (l : List UInt8) (w : World) (pb : UInt8 → Bool) (u : Value) (W : World) : Prop := ∃ k : Nat, k ≤ l.length ∧ (l.take k).all pb = true ∧ u = .string (str l) ∧ W = w.iter (str l) k
theorem blk_low (c : Int) (h : blkB c = true) : 0 ≤ c ∧ c < 128 := by
  unfold blkB at h
  simp only [Bool.or_eq_true, beq_iff_eq] at h
  omega
set_option maxHeartbeats 1600000 in
theorem take_blank {w : World} {g : Nat} {l : List UInt8} {tk p bf : Value} (hr : RdrAt w g l tk p bf) : Calls Tryd.prog 41 #[.pointer (some ⟨g, 0, none⟩), .func (.func 75) #[] #[]] w (TakeV w g l tk p bf (fun b : UInt8 => blkB (b.toNat : Int))) := by
  have hbb : ByByte blkB (fun b : UInt8 => blkB (b.toNat : Int)) := bybyte_low blk_low
  obtain ⟨pb, hpb⟩ : ∃ pb : UInt8 → Bool, pb = (fun b : UInt8 => blkB (b.toNat : Int)) := ⟨_, rfl⟩
  rw [← hpb] at hbb ⊢
  obtain ⟨q, hq⟩ : ∃ q : Int → Bool, q = blkB := ⟨_, rfl⟩
  have kq : ∀ (c : Int) (W : World), Calls Tryd.prog 75 #[.int .i32 c] W (Pure W (.bool (q c))) := fun c W => by rw [hq]; exact xblank_any c W
  rw [← hq] at hbb
  have HR := Lib.hid hr
  have c0 : w.cell? ⟨g, 0, none⟩ = some (.string (str l)) := hr.cell 0
  have ci : ∀ k, (w.iter (str l) k).cell? ⟨g, 0, none⟩ = some (.string (str l)) := fun k => (hr.alloc _).cell 0
  have fi : ∀ k, (w.iter (str l) k).frozen? ⟨g, 0, none⟩ = false := fun k => (hr.alloc _).free 0
  have KQ := Lib.hid kq
  have HBB := Lib.hid hbb
  clear hr kq hbb hq hpb
  go_enter Tryd.func41, Tryd.ntmps41
  go_wp2_with fail
  go_loopw [5] (XTkRel l w pb) (fun _ wr => l.length - wr.iterPos w.heap.size)
  case atStart => exact ⟨0, Nat.zero_le _, rfl, rfl, rfl⟩
  case round =>
    obtain ⟨k, hk, hal, rfl, rfl⟩ := hrel
    have cik := ci k
    have fik := fi k
    have s1 := slt l (l.take k).length (by rw [List.length_take]; omega)
    have hlt : (l.take k).length = k := by rw [List.length_take]; omega
    by_cases hkl : k < l.length
    · have hnx := fun ty => nxt_it w l k ty hkl
      have hbk := HBB.out l k hkl
      have hd := dec_on hkl
      have s0 := slf l k hk
      have HTA : Hid (∀ d, (l.take (k + d)) = l.take k ++ (l.drop k).take d) := Lib.hid (fun d => List.take_add)
      have cin := ci (k + (decodeL (l.drop k)).2)
      have fin_ := fi (k + (decodeL (l.drop k)).2)
      generalize decodeL (l.drop k) = dd at *
      have kc := fun W => KQ.out (dd.1 : Int) W
      cases hi : q (dd.1 : Int) with
      | false =>
        rw [hi] at kc
        rw [hi, if_neg Bool.false_ne_true] at hbk
        have HS := Lib.hid (tk_split pb l hk hal (fun _ => hbk))
        have KC := Lib.hid kc
        have HLT := Lib.hid hlt
        rw [hlt] at s1
        have hl1 : (l.take k).length = k := hlt
        generalize hT : l.take k = T at *
        clear kc hbk hi hal hlt hd hT
        go_wp2_with (go_at_call 75; refine (KC.out _).mono ?_; rintro e w' ⟨rfl, rfl⟩)
        go_ret
        exact ⟨by rw [HS.out.1]; rfl, by rw [HS.out.2]; exact ((HR.out.alloc _).set 0 _), KeepsR.trans (World.grownBy_alloc w _ _) (grown_set _ g 0 _)⟩
      | true =>
        rw [hi] at kc
        rw [hi, if_pos rfl] at hbk
        have HA : Hid ((l.take (k + dd.2)).all pb = true) := Lib.hid (by rw [HTA.out, List.all_append, hal, hbk]; rfl)
        have KC := Lib.hid kc
        clear kc hbk hi hal hlt s1
        go_wp2_with (go_at_call 75; refine (KC.out _).mono ?_; rintro e w' ⟨rfl, rfl⟩)
        go_roundw
        case rel => exact ⟨k + dd.2, hd.2, HA.out, rfl, rfl⟩
        case measure => simp; omega
    · have hnx := fun ty => nxt_itno w l k ty hkl
      have hke : k = l.length := by omega
      subst hke
      have HS := Lib.hid (tk_split pb l hk hal (fun h => absurd h (by omega)))
      rw [List.take_length, List.drop_length] at HS
      rw [List.take_length] at s1 hal
      clear hal hlt
      go_wp2_with fail
      go_ret
      exact ⟨by rw [HS.out.1]; rfl, by rw [HS.out.2]; exact ((HR.out.alloc _).set 0 _), KeepsR.trans (World.grownBy_alloc w _ _) (grown_set _ g 0 _)⟩
set_option maxHeartbeats 1600000 in
theorem take_in {w : World} {g : Nat} {l : List UInt8} {tk p bf : Value} (hr : RdrAt w g l tk p bf) : Calls Tryd.prog 41 #[.pointer (some ⟨g, 0, none⟩), .func (.func 28) #[] #[]] w (TakeV w g l tk p bf (fun b : UInt8 => inN (b.toNat : Int))) := by
  have hbb : ByByte inN (fun b : UInt8 => inN (b.toNat : Int)) := bybyte_low in_low
  obtain ⟨pb, hpb⟩ : ∃ pb : UInt8 → Bool, pb = (fun b : UInt8 => inN (b.toNat : Int)) := ⟨_, rfl⟩
  rw [← hpb] at hbb ⊢
  obtain ⟨q, hq⟩ : ∃ q : Int → Bool, q = inN := ⟨_, rfl⟩
  have kq : ∀ (c : Int) (W : World), Calls Tryd.prog 28 #[.int .i32 c] W (Pure W (.bool (q c))) := fun c W => by rw [hq]; exact xin_any c W
  rw [← hq] at hbb
  have HR := Lib.hid hr
  have c0 : w.cell? ⟨g, 0, none⟩ = some (.string (str l)) := hr.cell 0
  have ci : ∀ k, (w.iter (str l) k).cell? ⟨g, 0, none⟩ = some (.string (str l)) := fun k => (hr.alloc _).cell 0
  have fi : ∀ k, (w.iter (str l) k).frozen? ⟨g, 0, none⟩ = false := fun k => (hr.alloc _).free 0
  have KQ := Lib.hid kq
  have HBB := Lib.hid hbb
  clear hr kq hbb hq hpb
  go_enter Tryd.func41, Tryd.ntmps41
  go_wp2_with fail
  go_loopw [5] (XTkRel l w pb) (fun _ wr => l.length - wr.iterPos w.heap.size)
  case atStart => exact ⟨0, Nat.zero_le _, rfl, rfl, rfl⟩
  case round =>
    obtain ⟨k, hk, hal, rfl, rfl⟩ := hrel
    have cik := ci k
    have fik := fi k
    have s1 := slt l (l.take k).length (by rw [List.length_take]; omega)
    have hlt : (l.take k).length = k := by rw [List.length_take]; omega
    by_cases hkl : k < l.length
    · have hnx := fun ty => nxt_it w l k ty hkl
      have hbk := HBB.out l k hkl
      have hd := dec_on hkl
      have s0 := slf l k hk
      have HTA : Hid (∀ d, (l.take (k + d)) = l.take k ++ (l.drop k).take d) := Lib.hid (fun d => List.take_add)
      have cin := ci (k + (decodeL (l.drop k)).2)
      have fin_ := fi (k + (decodeL (l.drop k)).2)
      generalize decodeL (l.drop k) = dd at *
      have kc := fun W => KQ.out (dd.1 : Int) W
      cases hi : q (dd.1 : Int) with
      | false =>
        rw [hi] at kc
        rw [hi, if_neg Bool.false_ne_true] at hbk
        have HS := Lib.hid (tk_split pb l hk hal (fun _ => hbk))
        have KC := Lib.hid kc
        have HLT := Lib.hid hlt
        rw [hlt] at s1
        have hl1 : (l.take k).length = k := hlt
        generalize hT : l.take k = T at *
        clear kc hbk hi hal hlt hd hT
        go_wp2_with (go_at_call 28; refine (KC.out _).mono ?_; rintro e w' ⟨rfl, rfl⟩)
        go_ret
        exact ⟨by rw [HS.out.1]; rfl, by rw [HS.out.2]; exact ((HR.out.alloc _).set 0 _), KeepsR.trans (World.grownBy_alloc w _ _) (grown_set _ g 0 _)⟩
      | true =>
        rw [hi] at kc
        rw [hi, if_pos rfl] at hbk
        have HA : Hid ((l.take (k + dd.2)).all pb = true) := Lib.hid (by rw [HTA.out, List.all_append, hal, hbk]; rfl)
        have KC := Lib.hid kc
        clear kc hbk hi hal hlt s1
        go_wp2_with (go_at_call 28; refine (KC.out _).mono ?_; rintro e w' ⟨rfl, rfl⟩)
        go_roundw
        case rel => exact ⟨k + dd.2, hd.2, HA.out, rfl, rfl⟩
        case measure => simp; omega
    · have hnx := fun ty => nxt_itno w l k ty hkl
      have hke : k = l.length := by omega
      subst hke
      have HS := Lib.hid (tk_split pb l hk hal (fun h => absurd h (by omega)))
      rw [List.take_length, List.drop_length] at HS
      rw [List.take_length] at s1 hal
      clear hal hlt
      go_wp2_with fail
      go_ret
      exact ⟨by rw [HS.out.1]; rfl, by rw [HS.out.2]; exact ((HR.out.alloc _).set 0 _), KeepsR.trans (World.grownBy_alloc w _ _) (grown_set _ g 0 _)⟩
set_option maxHeartbeats 1600000 in
theorem take_text {w : World} {g : Nat} {l : List UInt8} {tk p bf : Value} (hr : RdrAt w g l tk p bf) : Calls Tryd.prog 41 #[.pointer (some ⟨g, 0, none⟩), .func (.func 42) #[] #[]] w (TakeV w g l tk p bf (fun b : UInt8 => b.toNat != 60)) := by
  have hbb : ByByte (fun c => c != ((60 : Nat) : Int)) (fun b : UInt8 => b.toNat != 60) := bybyte_not 60 (by decide)
  obtain ⟨pb, hpb⟩ : ∃ pb : UInt8 → Bool, pb = (fun b : UInt8 => b.toNat != 60) := ⟨_, rfl⟩
  rw [← hpb] at hbb ⊢
  obtain ⟨q, hq⟩ : ∃ q : Int → Bool, q = (fun c => c != ((60 : Nat) : Int)) := ⟨_, rfl⟩
  have kq : ∀ (c : Int) (W : World), Calls Tryd.prog 42 #[.int .i32 c] W (Pure W (.bool (q c))) := fun c W => by rw [hq]; exact part1_any c W
  rw [← hq] at hbb
  have HR := Lib.hid hr
  have c0 : w.cell? ⟨g, 0, none⟩ = some (.string (str l)) := hr.cell 0
  have ci : ∀ k, (w.iter (str l) k).cell? ⟨g, 0, none⟩ = some (.string (str l)) := fun k => (hr.alloc _).cell 0
  have fi : ∀ k, (w.iter (str l) k).frozen? ⟨g, 0, none⟩ = false := fun k => (hr.alloc _).free 0
  have KQ := Lib.hid kq
  have HBB := Lib.hid hbb
  clear hr kq hbb hq hpb
  go_enter Tryd.func41, Tryd.ntmps41
  go_wp2_with fail
  go_loopw [5] (XTkRel l w pb) (fun _ wr => l.length - wr.iterPos w.heap.size)
  case atStart => exact ⟨0, Nat.zero_le _, rfl, rfl, rfl⟩
  case round =>
    obtain ⟨k, hk, hal, rfl, rfl⟩ := hrel
    have cik := ci k
    have fik := fi k
    have s1 := slt l (l.take k).length (by rw [List.length_take]; omega)
    have hlt : (l.take k).length = k := by rw [List.length_take]; omega
    by_cases hkl : k < l.length
    · have hnx := fun ty => nxt_it w l k ty hkl
      have hbk := HBB.out l k hkl
      have hd := dec_on hkl
      have s0 := slf l k hk
      have HTA : Hid (∀ d, (l.take (k + d)) = l.take k ++ (l.drop k).take d) := Lib.hid (fun d => List.take_add)
      have cin := ci (k + (decodeL (l.drop k)).2)
      have fin_ := fi (k + (decodeL (l.drop k)).2)
      generalize decodeL (l.drop k) = dd at *
      have kc := fun W => KQ.out (dd.1 : Int) W
      cases hi : q (dd.1 : Int) with
      | false =>
        rw [hi] at kc
        rw [hi, if_neg Bool.false_ne_true] at hbk
        have HS := Lib.hid (tk_split pb l hk hal (fun _ => hbk))
        have KC := Lib.hid kc
        have HLT := Lib.hid hlt
        rw [hlt] at s1
        have hl1 : (l.take k).length = k := hlt
        generalize hT : l.take k = T at *
        clear kc hbk hi hal hlt hd hT
        go_wp2_with (go_at_call 42; refine (KC.out _).mono ?_; rintro e w' ⟨rfl, rfl⟩)
        go_ret
        exact ⟨by rw [HS.out.1]; rfl, by rw [HS.out.2]; exact ((HR.out.alloc _).set 0 _), KeepsR.trans (World.grownBy_alloc w _ _) (grown_set _ g 0 _)⟩
      | true =>
        rw [hi] at kc
        rw [hi, if_pos rfl] at hbk
        have HA : Hid ((l.take (k + dd.2)).all pb = true) := Lib.hid (by rw [HTA.out, List.all_append, hal, hbk]; rfl)
        have KC := Lib.hid kc
        clear kc hbk hi hal hlt s1
        go_wp2_with (go_at_call 42; refine (KC.out _).mono ?_; rintro e w' ⟨rfl, rfl⟩)
        go_roundw
        case rel => exact ⟨k + dd.2, hd.2, HA.out, rfl, rfl⟩
        case measure => simp; omega
    · have hnx := fun ty => nxt_itno w l k ty hkl
      have hke : k = l.length := by omega
      subst hke
      have HS := Lib.hid (tk_split pb l hk hal (fun h => absurd h (by omega)))
      rw [List.take_length, List.drop_length] at HS
      rw [List.take_length] at s1 hal
      clear hal hlt
      go_wp2_with fail
      go_ret
      exact ⟨by rw [HS.out.1]; rfl, by rw [HS.out.2]; exact ((HR.out.alloc _).set 0 _), KeepsR.trans (World.grownBy_alloc w _ _) (grown_set _ g 0 _)⟩
end Go.Proofs.YtanefcpjbgfgbaaDoor
