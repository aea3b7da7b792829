/-
  An append of bytes to a row, with where the new row lies. Conditions: lengths within what a slice may have.
-/
import Derived.Test.YtincdegoiknfhabKAbs
namespace Go.Proofs.Ytincdegoiknfhab
open Go.RowKit

theorem wpList_append_srcA {P : Program} (w : World) {ops : Array Oper} {rest : List Oper} {o : Oper} {a : Act} {Q : Exit → Act → World → Prop} (hgd : o.guard = none) (s x : Operand) (t : TypeId)
    (ho : o.op = .call { callee := .builtin .append, args := #[s, x], argTypes := #[t, t] })
    (base : Nat) (e : TypeId) (z : Value) (bytes : Nat) (ht : P.underlying t = some (.slice e)) (hinfo : (P.info? e).map (fun i => (i.zero, i.size, i.bytes)) = some (some z, 1, bytes)) (hz1 : z.cells.size = 1)
    (v : Value) (xs : List Value) (hs : a.eval s = v) (hown : Own w base e v xs) (vx : Value) (ys : List Value) (hx : a.eval x = vx) (hsrc : Src w vx ys) (h1 : ∀ u ∈ ys, u.oneCell' = true)
    (hlen : xs.length + ys.length ≤ maxLen) (hbytes : (xs.length + ys.length) * bytes ≤ 140737488355328) (hbase : base ≤ w.heap.size)
    (h : ∀ v' w', Own w' base e v' (xs ++ ys) → w.grownBy w' v.ownBlock → (∀ k, v'.ownBlock = some k → v.ownBlock = some k ∨ w.heap.size ≤ k) → wpList P ops Q rest (a.put o.dst v') w') :
    wpList P ops Q (o :: rest) a w := by
  obtain ⟨i, hi, hz, hsize, hby⟩ := info_parts hinfo
  obtain ⟨A, c, rfl, hnone, hcells⟩ := hsrc
  have key : ∃ v' w', (Builtin.append_ #[t, t] o.type #[v, .slice A ys.length c]).run P w = .ok v' w' ∧ Own w' base e v' (xs ++ ys) ∧ w.grownBy w' v.ownBlock ∧ (∀ k, v'.ownBlock = some k → v.ownBlock = some k ∨ w.heap.size ≤ k) := by
    cases A with
    | none =>
      have := hnone rfl
      subst this
      exact ⟨v, w, run_append_nilsrc w base t o.type e i 1 ht hi v xs.length xs hown c, by simpa using hown, World.grownBy.refl w _, fun _ h => .inl h⟩
    | some ad =>
      obtain ⟨v', w', hr, h2, h3, hat⟩ := run_append_own_at (P := P) w base t o.type e i z 1 bytes ht hi hz hsize hby hz1 (by decide) v xs.length xs hown ad ys.length c ys (by omega) (hcells ad rfl) h1 hlen hbytes hbase
      exact ⟨v', w', hr, by unfold Own; rw [List.length_append]; exact h2, h3, fun k hk => by
        rcases hat.2 with h | h
        · left; rw [← h]; exact hk
        · right; rw [h] at hk; injection hk with hk; omega⟩
  obtain ⟨v', w', hrun, h2, h3, h5⟩ := key
  refine wpList_plain hgd fun _ hK => ?_
  unfold Oper.wp execOp
  simp only [ho, resolve, invoke, builtin, Sem.run_bind, Sem.run_pure, Result.andThen_ok, List.map_toArray, List.map_cons, List.map_nil, hs, hx, hrun]
  exact hK _ _ (h v' w' h2 h3 h5)
end Go.Proofs.Ytincdegoiknfhab
