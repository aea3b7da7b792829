/-
  An append within a region whose operation bears a guard that says yes; a literal without elements. Conditions: lengths within what a slice may have.
-/
import Derived.Test.YtincdegoiknfhabMemB
namespace Go.Proofs.Ytincdegoiknfhab
open Go.RowKit

theorem wpList_append_srcg {P : Program} (w : World) {ops : Array Oper} {rest : List Oper} {o : Oper} {a : Act} {Q : Exit → Act → World → Prop} (hgd : Region.wanted o (yielded ops a.tmps) = true) (s x : Operand) (t : TypeId)
    (ho : o.op = .call { callee := .builtin .append, args := #[s, x], argTypes := #[t, t] })
    (base : Nat) (e : TypeId) (z : Value) (bytes : Nat) (ht : P.underlying t = some (.slice e)) (hinfo : (P.info? e).map (fun i => (i.zero, i.size, i.bytes)) = some (some z, 1, bytes)) (hz1 : z.cells.size = 1)
    (v : Value) (xs : List Value) (hs : a.eval s = v) (hown : Own w base e v xs) (vx : Value) (ys : List Value) (hx : a.eval x = vx) (hsrc : Src w vx ys) (h1 : ∀ u ∈ ys, u.oneCell' = true)
    (hlen : xs.length + ys.length ≤ maxLen) (hbytes : (xs.length + ys.length) * bytes ≤ 140737488355328) (hbase : base ≤ w.heap.size)
    (h : ∀ v' w', Own w' base e v' (xs ++ ys) → w.grownBy w' v.ownBlock → Below base w w' → Stays w w' v → wpList P ops Q rest (a.put o.dst v') w') :
    wpList P ops Q (o :: rest) a w :=
  wpList_step fun _ hK => by
    rw [if_pos hgd]
    exact wp_append_src w s x t ho base e z bytes ht hinfo hz1 v xs hs hown vx ys hx hsrc h1 hlen hbytes hbase fun v' w' h2 h3 h4 h5 => hK _ _ (h v' w' h2 h3 h4 h5)

/-- A literal without elements, laid. -/
theorem Own.empty (w : World) (e : TypeId) (g : Nat) (hg : g = w.heap.size) : Own (w.alloc (.cells #[] e)) g e (.slice (some ⟨g, 0, none⟩) 0 0) [] := by
  subst hg
  refine ⟨by simp, .inr ⟨_, 0, #[], rfl, Nat.le_refl _, ?_, Nat.le_refl _, by unfold maxLen; omega, rfl, rfl⟩⟩
  exact heap_alloc_new _ _
end Go.Proofs.Ytincdegoiknfhab
