/-
  The function that parts a text (words.parter), the one that it tells (words.Words$1). Condition: few words, a word of at most 32 runes.
-/
import Derived.Test.YtelhdkidnhfnbabGreatDoorWStep
import Derived.Test.YtelhdkidnhfnbabGreatDoorURef3
import Derived.Deep.RegionHeld3
namespace Go.Proofs.YtelhdkidnhfnbabGreatDoor
open Go.RowKit
open Go.Lib (decodeL encodeRune)

theorem Tryz.strinfo : (Tryz.prog.info? 9).map (fun i => (i.zero, i.size, i.bytes)) = some (some (.string ⟨#[]⟩), 1, 16) := by kernel_rfl
def strs (L : List (List UInt8)) : List Value := L.map fun l => .string (str l)
theorem strs_length (L : List (List UInt8)) : (strs L).length = L.length := by simp [strs]
theorem strs_snoc (L : List (List UInt8)) (x : List UInt8) : strs (L ++ [x]) = strs L ++ [.string (str x)] := by simp [strs]

/-- The function that takes the words, and the one that parts. -/
def tellV (g : Nat) : Value := .func (.func 70) #[] #[.pointer (some ⟨g, 0, none⟩)]
def partV (g : Nat) : Value := .func (.func 87) #[] #[.pointer (some ⟨g + 2, 0, none⟩), .pointer (some ⟨g + 1, 0, none⟩)]

/-- Rows of the call's own of different elements lie in different blocks. -/
theorem own_diff {w : World} {base e e' : Nat} {v v' : Value} {xs ys : List Value} (h : Own w base e v xs) (h' : Own w base e' v' ys) (hne : e ≠ e') : v.ownBlock = none ∨ v.ownBlock ≠ v'.ownBlock := by
  rcases h.2 with ⟨rfl, _⟩ | ⟨g, cap, cur, rfl, _, hg, _⟩
  · exact .inl rfl
  · right
    rcases h'.2 with ⟨rfl, _⟩ | ⟨g', cap', cur', rfl, _, hg', _⟩
    · simp [Value.ownBlock]
    · intro e1
      simp only [Value.ownBlock, Option.some.injEq] at e1
      subst e1
      rw [hg] at hg'
      simp only [Option.some.injEq, Obj.cells.injEq] at hg'
      exact hne hg'.2.1
theorem own_shape {w : World} {base e : Nat} {v : Value} {xs : List Value} (h : Own w base e v xs) : ∃ A n c, v = .slice A n c := by
  rcases h.2 with ⟨rfl, _⟩ | ⟨g, cap, cur, rfl, _⟩
  · exact ⟨_, _, _, rfl⟩
  · exact ⟨_, _, _, rfl⟩
theorem Own.setB {w : World} {base e : Nat} {v : Value} {xs : List Value} (h : Own w base e v xs) {g : Nat} (hg : g < base) (k : Nat) (u : Value) : Own (w.setCell ⟨g, k, none⟩ u) base e v xs := ownsRow_setCell_below h (a := ⟨g, k, none⟩) hg u

/-- What stands while words are parted: where the words are kept, and the word that goes on. -/
structure WInv (g base : Nat) (out : List (List UInt8)) (word : List Int) (W : World) : Prop where
  l : ∃ v, Blk W g 40 #[v] ∧ Own W base 9 v (strs out)
  t : Blk W (g + 1) 75 #[tellV g]
  w : ∃ v, Blk W (g + 2) 62 #[v] ∧ Own W base 21 v (rvs word)
  b : g + 2 < base
  s : base ≤ W.heap.size
/-- Whatever stood below base stands, but for the two blocks. -/
def Kp (g base : Nat) (w W : World) : Prop := Kept (fun k => k = g ∨ k = g + 2 ∨ base ≤ k) w W
theorem Kp.refl (g base : Nat) (w : World) : Kp g base w w := Kept.refl _ _
theorem Kp.trans {g base : Nat} {a b c : World} (h : Kp g base a b) (k : Kp g base b c) : Kp g base a c := Kept.trans h k
theorem Kp.below {g base : Nat} {w W : World} (h : Below base w W) : Kp g base w W := Kept.belowB h fun _ hk => .inr (.inr hk)
theorem Kp.set0 (g base : Nat) (w : World) (u : Value) : Kp g base w (w.setCell ⟨g, 0, none⟩ u) :=
  ⟨rfl, rfl, rfl, by simp [World.setCell], fun k _ hd => Below.heap_setCell _ _ _ _ (fun e => hd (.inl e))⟩
theorem Kp.set2 (g base : Nat) (w : World) (u : Value) : Kp g base w (w.setCell ⟨g + 2, 0, none⟩ u) :=
  ⟨rfl, rfl, rfl, by simp [World.setCell], fun k _ hd => Below.heap_setCell _ _ _ _ (fun e => hd (.inr (.inl e)))⟩
theorem Kp.drew {g base : Nat} {w W : World} (h : Kp g base w W) : Kp g base w W.drew := ⟨h.os, h.tape, h.output, h.size, h.block⟩
theorem WInv.below {g base : Nat} {out : List (List UInt8)} {word : List Int} {W W' : World} (h : WInv g base out word W) (hb : Below W.heap.size W W') : WInv g base out word W' := by
  obtain ⟨vl, hl1, hl2⟩ := h.l
  obtain ⟨vw, hw1, hw2⟩ := h.w
  exact ⟨⟨vl, hl1.below hb hl1.lt, hl2.below hb⟩, h.t.below hb h.t.lt, ⟨vw, hw1.below hb hw1.lt, hw2.below hb⟩, h.b, Nat.le_trans h.s hb.size⟩
theorem WInv.drew {g base : Nat} {out : List (List UInt8)} {word : List Int} {W : World} (h : WInv g base out word W) : WInv g base out word W.drew := ⟨h.l, h.t, h.w, h.b, h.s⟩

/-- What a call leaves that only goes on with the words. -/
def Goes (g base : Nat) (out : List (List UInt8)) (word : List Int) (w : World) (e : Ending) (w' : World) : Prop := e = .returned (.tuple #[]) ∧ WInv g base out word w' ∧ Kp g base w w'

set_option maxHeartbeats 1600000 in
theorem tell_any (g base : Nat) (out : List (List UInt8)) (word : List Int) (x : List UInt8) (w : World) (hi : WInv g base out word w) (hlen : out.length ≤ 1099511627776) :
    Calls Tryz.prog 70 #[.string (str x), .pointer (some ⟨g, 0, none⟩)] w (fun e w' => Goes g base (out ++ [x]) word w e w' ∧ w'.heap[g + 2]? = w.heap[g + 2]?) := by
  obtain ⟨vl, hl1, hl2⟩ := hi.l
  obtain ⟨vw, hw1, hw2⟩ := hi.w
  have c0 : w.cell? ⟨g, 0, none⟩ = some vl := hl1.cell 0
  have HL1 := Lib.hid hl1
  have HL2 := Lib.hid hl2
  have HW1 := Lib.hid hw1
  have HW2 := Lib.hid hw2
  have HI := Lib.hid hi
  have hsz := hi.s
  have hgb := hi.b
  have hdf := own_diff hw2 hl2 (by decide)
  have HDF := Lib.hid hdf
  clear hl1 hl2 hw1 hw2 hi hdf
  go_enter Tryz.func70, Tryz.ntmps70
  go_wp2_with (at_builtin; go_must (refine wpList_push w rfl (.tmp 3) (.tmp 5) _ rfl base 9 _ 16 Tryz.underlying40 Tryz.strinfo rfl _ _ rfl (by exact HL2.out) _ rfl rfl (by rw [strs_length]; unfold maxLen; omega) (by rw [strs_length]; omega) hsz ?_); intro v1 w1 hown1 hg1 hb1 _; obtain ⟨A1, n1, k1, rfl⟩ := own_shape hown1; go_must (have g0 : w1.cell? ⟨g, 0, none⟩ = some vl := (HL1.out.below hb1 (by omega)).cell 0; have f0 : w1.frozen? ⟨g, 0, none⟩ = false := (HL1.out.below hb1 (by omega)).free 0))
  go_end0
  refine ⟨⟨rfl, ⟨⟨_, (HL1.out.below hb1 (by omega)).set 0 _, by rw [strs_snoc]; exact hown1.setB (by omega) 0 _⟩, ?_, ⟨vw, ?_, ?_⟩, hgb, ?_⟩, (Kp.below hb1).trans (Kp.set0 g base w1 _)⟩, (Below.heap_setCell _ _ _ _ (by simp)).trans (hb1.block (g + 2) hgb)⟩
  · exact (HI.out.t.below hb1 (by omega)).grown (grown_set w1 g 0 _) (by simp)
  · exact (HW1.out.below hb1 (by omega)).grown (grown_set w1 g 0 _) (by simp)
  · exact (HW2.out.grown hg1 HDF.out).setB (by omega) 0 _
  · have := hb1.size; simp [World.setCell]; omega

set_option maxHeartbeats 1600000 in
theorem part_new (g : Nat) (w : World) (hg : g + 1 = w.heap.size) :
    Calls Tryz.prog 69 #[tellV g] w fun e w' => e = .returned (partV g) ∧ (w.alloc (.cells #[tellV g] 75)).alloc (.cells #[.slice none 0 0] 62) = w' := by
  unfold tellV partV
  have hg2 : g + 2 = w.heap.size + 1 := by omega
  rw [hg2, hg]
  clear hg hg2
  go_enter Tryz.func69, Tryz.ntmps69
  go_wp2_with fail
  go_ret
  exact ⟨rfl, rfl⟩
end Go.Proofs.YtelhdkidnhfnbabGreatDoor
