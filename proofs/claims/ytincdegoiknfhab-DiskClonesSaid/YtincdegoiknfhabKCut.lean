/-
  A file cut (file.cut). Condition: the bytes' length is a length.
-/
import Derived.Test.YtincdegoiknfhabKName
import Derived.Deep.RegionHeld3
namespace Go.Proofs.Ytincdegoiknfhab
open Go.RowKit

/-- How many bytes are left, all safe. -/
def keepN (e : KEnt) (kept : Int) : Nat := e.safe + (max 0 (min kept ((e.bytes.length : Int) - (e.safe : Int)))).toNat
def cutE (e : KEnt) (kept : Int) (v : Value) : KEnt := { e with v := v, bytes := e.bytes.take (keepN e kept), safe := keepN e kept }
theorem cut_bd (e : KEnt) (kept : Int) (h : e.safe ≤ e.bytes.length) : e.safe ≤ keepN e kept ∧ keepN e kept ≤ e.bytes.length := by unfold keepN; omega
theorem own_take {w : World} {lo : Nat} {A : Option Addr} {n c : Nat} {l : List UInt8} (h : Own w lo 5 (.slice A n c) (bvs l)) (k : Nat) (hk : k ≤ l.length) : Own w lo 5 (.slice A k c) (bvs (l.take k)) := by
  have hl : (bvs (l.take k)).length = k := by rw [bvs_length, List.length_take]; omega
  obtain ⟨h1, h2⟩ := h
  unfold Own
  rw [hl]
  refine ⟨by rw [hl]; omega, ?_⟩
  rcases h2 with ⟨hv, h0⟩ | ⟨g, cap, cur, hv, hg, hh, hn, hc, hs, ht⟩
  · injection hv with a1 a2 a3
    subst a1 a2 a3
    rw [bvs_length] at h0
    have : k = 0 := by omega
    subst this
    exact .inl ⟨rfl, rfl⟩
  · injection hv with a1 a2 a3
    subst a1 a2 a3
    rw [bvs_length] at hn ht
    refine .inr ⟨g, c, cur, rfl, hg, hh, by omega, hc, hs, ?_⟩
    have e1 : bvs (l.take k) = (bvs l).take k := by unfold bvs; rw [List.map_take]
    rw [e1, ← ht, List.take_take]
    congr 1
    omega
theorem ownB (A : Option Addr) (n m c : Nat) : (Value.slice A n c).ownBlock = (Value.slice A m c).ownBlock := by cases A <;> rfl
def CutAns (w : World) (lo : Nat) (e : KEnt) (kept : Int) (en : Ending) (w' : World) : Prop := en = .returned (.tuple #[]) ∧ ∃ v, FileAt w' lo (cutE e kept v) ∧ v.ownBlock = e.v.ownBlock ∧ KeptOff (fun k => k = e.g) w w'
set_option maxHeartbeats 1600000 in
theorem kcut {w : World} {lo : Nat} {e : KEnt} (h : FileAt w lo e) (kept : Int) (hl : e.bytes.length ≤ 1099511627776) : Calls Try.prog 59 #[.pointer (some ⟨e.g, 0, none⟩), .int .i64 kept] w (CutAns w lo e kept) := by
  obtain ⟨f1, f2, f3, f4⟩ := h
  obtain ⟨A, c, hA⟩ := row_shape f3
  have hcap : e.bytes.length ≤ c := by
    obtain ⟨A', c', e', h1, _, _⟩ := f3.rd (Nat.le_refl _)
    rw [hA] at e'
    injection e' with _ _ e3
    omega
  have hbd := cut_bd e kept f4
  have hm : max 0 (min kept ((e.bytes.length : Int) - (e.safe : Int))) = ((keepN e kept - e.safe : Nat) : Int) := by unfold keepN; omega
  have hp : (e.safe : Int) + ((keepN e kept - e.safe : Nat) : Int) = (keepN e kept : Int) := by omega
  have c0 : w.cell? ⟨e.g, 0, none⟩ = some (.slice A e.bytes.length c) := by rw [← hA]; exact f2.cell 0
  have c1 : w.cell? ⟨e.g, 1, none⟩ = some (.int .i64 (e.safe : Int)) := f2.cell 1
  have z0 : w.frozen? ⟨e.g, 0, none⟩ = false := f2.free 0
  have z1 : w.frozen? ⟨e.g, 1, none⟩ = false := f2.free 1
  have hfile : FileAt ((w.setCell ⟨e.g, 1, none⟩ (.int .i64 (keepN e kept : Int))).setCell ⟨e.g, 0, none⟩ (.slice A (keepN e kept) c)) lo (cutE e kept (.slice A (keepN e kept) c)) := by
    rw [hA] at f3
    refine ⟨f1, (f2.set 1 _).set 0 _, (own_take f3 _ hbd.2).blk fun k hk => ?_, ?_⟩
    · have hk' : (Value.slice A e.bytes.length c).ownBlock = some k := (ownB A _ _ c).trans hk
      obtain ⟨cur, hc⟩ := f3.rowAt k hk'
      have hne := cells_ne hc f2 (by decide)
      exact (Below.heap_setCell _ _ _ _ hne).trans (Below.heap_setCell _ _ _ _ hne)
    · show keepN e kept ≤ (e.bytes.take (keepN e kept)).length
      rw [List.length_take]; omega
  have hkept : KeptOff (fun k => k = e.g) w ((w.setCell ⟨e.g, 1, none⟩ (.int .i64 (keepN e kept : Int))).setCell ⟨e.g, 0, none⟩ (.slice A (keepN e kept) c)) :=
    (KeptOff.set (F := fun k => k = e.g) w e.g 1 _ rfl).trans (KeptOff.set (F := fun k => k = e.g) _ e.g 0 _ rfl) fun x hx => .inl hx
  have hown : (Value.slice A (keepN e kept) c).ownBlock = e.v.ownBlock := by rw [hA]; exact ownB A _ _ c
  have g0 : (w.setCell ⟨e.g, 1, none⟩ (.int .i64 (keepN e kept : Int))).cell? ⟨e.g, 0, none⟩ = some (.slice A e.bytes.length c) := by rw [← hA]; exact (f2.set 1 (.int .i64 (keepN e kept : Int))).cell 0
  have g1 : (w.setCell ⟨e.g, 1, none⟩ (.int .i64 (keepN e kept : Int))).cell? ⟨e.g, 1, none⟩ = some (.int .i64 (keepN e kept : Int)) := (f2.set 1 (.int .i64 (keepN e kept : Int))).cell 1
  have HF := Lib.hid (And.intro hfile (And.intro hown hkept))
  clear hfile hown hkept f1 f2 f3 hA
  unfold CutAns
  generalize keepN e kept = n at *
  generalize hq : n - e.safe = q at *
  clear hq
  have hqb : (q : Int) ≤ 1099511627776 := by omega
  have hnc : (n : Int) ≤ (c : Int) := by omega
  have HM := Lib.hid hm
  have G := Lib.hid (And.intro g0 g1)
  clear g0 g1
  clear hm
  go_enter Try.func59, Try.ntmps59
  go_wp2_with fail
  go_quiet (fail)
  rw [HM.out]
  go_wp2_with fail
  go_region
  all_goals (go_wp2_with fail)
  all_goals go_end0
  all_goals exact ⟨rfl, _, by exact HF.out.1, HF.out.2.1, by exact HF.out.2.2⟩
end Go.Proofs.Ytincdegoiknfhab
