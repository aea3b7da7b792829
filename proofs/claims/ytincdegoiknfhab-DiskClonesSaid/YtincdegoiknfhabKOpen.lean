/-
  Arguments of the disk's laws, opened: a call (a struct), a slice of texts, a slice of calls. No condition.
-/
import Derived.Test.YtincdegoiknfhabKLives
import Derived.OpenShut
import Derived.ShutString
import Derived.ChangeOld
import Derived.Deep.Slices
import Derived.Deep.Fields
import Derived.ChangeSame
namespace Go.Proofs.Ytincdegoiknfhab
open Go.RowKit Go.ChangeShapes Go.WideShapes

/-- A call's fields are of their types' shapes. -/
def OpShape (_w : World) (v : Value) : Prop := ∃ (k n : Int) (sa sb : ByteArray) (Ad : Option Addr) (nd cd : Nat) (Ak : Option Addr) (nk ck : Nat), v = .agg #[.int .i64 k, .string sa, .string sb, .int .i64 n, .slice Ad nd cd, .slice Ak nk ck]
theorem slice_shape {H : Type} {enc : TypeId × Value → H} {P : Program} {w : World} {base : Nat} {sp : Nat → Bool} {held : Bool} {t e : TypeId} {fuel : Nat} {v : Value} {x : DataW H × List MemPlace} (ht : P.underlying t = some (.slice e)) (h : DataW.trod enc P w base sp held fuel t [v] = some x) : ∃ A n c, v = .slice A n c := by
  rcases Deep.open_slice ht h with ⟨hcs, _⟩ | ⟨a, len, cap, m, n, D, Pl, hcs, _⟩
  · injection hcs with hcs
    exact ⟨_, _, _, hcs⟩
  · injection hcs with hcs
    exact ⟨_, _, _, hcs⟩
set_option maxRecDepth 100000 in
theorem op_open {H : Type} {enc : TypeId × Value → H} {W : World} {base : Nat} {v : Value} {x : DataW H} {p : List MemPlace} (hv : Value.okWide Try.prog W .any base 39 v) (ht : DataW.Trod enc Try.prog W 0 (fun _ => true) true 39 v x p) : OpShape W v := by
  obtain ⟨⟨l⟩, rfl, hsz⟩ := okWide_struct Try.underlying39 hv
  have hlen : l.length = 6 := hsz.trans (show Try.prog.cellsOf 39 = 6 by kernel_rfl)
  obtain ⟨fuel, hf⟩ := ht
  obtain ⟨xs, n, _, _, _, hxl, hg⟩ := DataW.trod_struct Try.underlying39 hf
  have hx6 : xs.length = 6 := hxl
  have ci : Try.prog.cellsOf 3 = 1 := by kernel_rfl
  have cs : Try.prog.cellsOf 9 = 1 := by kernel_rfl
  have cb : Try.prog.cellsOf 36 = 1 := by kernel_rfl
  have ck : Try.prog.cellsOf 37 = 1 := by kernel_rfl
  match l, hlen with
  | [b0, b1, b2, b3, b4, b5], _ =>
    have g0 := hg 0 _ rfl
    have g1 := hg 1 _ rfl
    have g2 := hg 2 _ rfl
    have g3 := hg 3 _ rfl
    have g4 := hg 4 _ rfl
    have g5 := hg 5 _ rfl
    rw [List.getElem?_eq_getElem (by omega)] at g0 g1 g2 g3 g4 g5
    obtain ⟨a0, e0, _⟩ := DataW.trod_int Try.underlying3 g0
    obtain ⟨a1, e1, _⟩ := DataW.trod_string Try.underlying9 g1
    obtain ⟨a2, e2, _⟩ := DataW.trod_string Try.underlying9 g2
    obtain ⟨a3, e3, _⟩ := DataW.trod_int Try.underlying3 g3
    have q0 : ([b0, b1, b2, b3, b4, b5].drop 0).take (Try.prog.cellsOf 3) = [.int .i64 a0] := e0
    have q1 : ([b0, b1, b2, b3, b4, b5].drop 1).take (Try.prog.cellsOf 9) = [.string a1] := e1
    have q2 : ([b0, b1, b2, b3, b4, b5].drop 2).take (Try.prog.cellsOf 9) = [.string a2] := e2
    have q3 : ([b0, b1, b2, b3, b4, b5].drop 3).take (Try.prog.cellsOf 3) = [.int .i64 a3] := e3
    have q4 : ([b0, b1, b2, b3, b4, b5].drop 4).take (Try.prog.cellsOf 36) = [b4] := by rw [cb]; rfl
    have q5 : ([b0, b1, b2, b3, b4, b5].drop 5).take (Try.prog.cellsOf 37) = [b5] := by rw [ck]; rfl
    have g4' : DataW.trod enc Try.prog W 0 (fun _ => true) true n 36 (([b0, b1, b2, b3, b4, b5].drop 4).take (Try.prog.cellsOf 36)) = some xs[4] := g4
    have g5' : DataW.trod enc Try.prog W 0 (fun _ => true) true n 37 (([b0, b1, b2, b3, b4, b5].drop 5).take (Try.prog.cellsOf 37)) = some xs[5] := g5
    rw [q4] at g4'
    rw [q5] at g5'
    obtain ⟨Ad, nd, cd, r4⟩ := slice_shape Try.underlying36 g4'
    obtain ⟨Ak, nk, ck', r5⟩ := slice_shape Try.underlying37 g5'
    rw [ci] at q0 q3
    rw [cs] at q1 q2
    have r0 : b0 = .int .i64 a0 := by simpa using q0
    have r1 : b1 = .string a1 := by simpa using q1
    have r2 : b2 = .string a2 := by simpa using q2
    have r3 : b3 = .int .i64 a3 := by simpa using q3
    subst r0 r1 r2 r3 r4 r5
    exact ⟨a0, a3, a1, a2, Ad, nd, cd, Ak, nk, ck', rfl⟩
end Go.Proofs.Ytincdegoiknfhab
