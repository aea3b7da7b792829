/-
  An append to a slice whose room is used up: a new row; a slice's head and tail. Conditions: lengths within what a slice may have.
-/
import Derived.Test.YtmimkcdomgoefaaWSetM
import Derived.Test.YtmimkcdomgoefaaWBoth
import Derived.ArgAppend
namespace Go.Proofs.Ytmimkcdomgoefaa
open Go.RowKit

theorem wp_append_view {P : Program} (w : World) {o : Oper} {a : Act} {K : Act → World → Prop} {Q : Exit → Act → World → Prop} (s x : Operand) (t : TypeId)
    (ho : o.op = .call { callee := .builtin .append, args := #[s, x], argTypes := #[t, t] })
    (e : TypeId) (z : Value) (bytes : Nat) (ht : P.underlying t = some (.slice e)) (hinfo : (P.info? e).map (fun i => (i.zero, i.size, i.bytes)) = some (some z, 1, bytes)) (hz1 : z.cells.size = 1)
    (ao : Option Addr) (k : Nat) (olds : List Value) (hs : a.eval s = .slice ao k k) (hlo : olds.length = k) (hv : (ao = none → k = 0) ∧ ∀ b, ao = some b → ∀ j u, olds[j]? = some u → w.cell? (b.add j) = some u)
    (vx : Value) (u : Value) (hx : a.eval x = vx) (hsrc : Src w vx [u]) (h1 : u.oneCell' = true)
    (b1 : k + 1 ≤ maxLen) (b2 : (k + 1) * bytes ≤ 140737488355328)
    (h : ∀ v' w', Own w' w.heap.size e v' (olds ++ [u]) → Below w.heap.size w w' → K (a.put o.dst v') w') : o.wp P a w K Q := by
  obtain ⟨i, hi, hz, hsize, hby⟩ := info_parts hinfo
  obtain ⟨A, c, rfl, hnil, hcells⟩ := hsrc
  obtain ⟨hnone, holds⟩ := hv
  cases A with
  | none => have := hnil rfl; cases this
  | some ad =>
  have key : ∃ v' w', (Builtin.append_ #[t, t] o.type #[.slice ao k k, .slice (some ad) [u].length c]).run P w = .ok v' w' ∧ Own w' w.heap.size e v' (olds ++ [u]) ∧ w.grownBy w' none := by
    cases ao with
    | some b =>
      obtain ⟨v', w', hr, r1, r2⟩ := run_append_arg_grows (P := P) w t o.type e i z 1 bytes ht hi hz hsize hby hz1 (by decide) b k k olds (by omega) (holds b rfl) ad 1 c [u] rfl (hcells ad rfl) (by omega) b1 b2
      exact ⟨v', w', hr, by unfold Own; rw [List.length_append, hlo]; exact r1, r2⟩
    | none =>
      have := hnone rfl
      subst this
      have : olds = [] := List.length_eq_zero_iff.1 hlo
      subst this
      obtain ⟨v', w', hr, r1, r2, _⟩ := run_append_own (P := P) w w.heap.size t o.type e i z 1 bytes ht hi hz hsize hby hz1 (by decide) (.slice none 0 0) 0 [] (World.ownsRow_nil w _ e 1) ad 1 c [u] rfl (hcells ad rfl) (fun v hv => by rw [List.mem_singleton.1 hv]; exact h1) b1 b2 (Nat.le_refl _)
      exact ⟨v', w', hr, r1, r2⟩
  obtain ⟨v', w', hrun, h2, h3⟩ := key
  unfold Oper.wp execOp
  simp only [ho, resolve, invoke, builtin, Sem.run_bind, Sem.run_pure, Result.andThen_ok, List.map_toArray, List.map_cons, List.map_nil, hs, hx, hrun]
  exact h v' w' h2 ((Below.refl _ _).grown h3 (Nat.le_refl _) fun k hk => by cases hk)
theorem step_append_view {P : Program} (w : World) {ops : Array Oper} {o : Oper} {a : Act} {K : Act → World → Prop} {Q : Exit → Act → World → Prop} {E : Prop} (hgd : o.guard = none) (s x : Operand) (t : TypeId)
    (ho : o.op = .call { callee := .builtin .append, args := #[s, x], argTypes := #[t, t] })
    (e : TypeId) (z : Value) (bytes : Nat) (ht : P.underlying t = some (.slice e)) (hinfo : (P.info? e).map (fun i => (i.zero, i.size, i.bytes)) = some (some z, 1, bytes)) (hz1 : z.cells.size = 1)
    (ao : Option Addr) (k : Nat) (olds : List Value) (hs : a.eval s = .slice ao k k) (hlo : olds.length = k) (hv : (ao = none → k = 0) ∧ ∀ b, ao = some b → ∀ j u, olds[j]? = some u → w.cell? (b.add j) = some u)
    (vx : Value) (u : Value) (hx : a.eval x = vx) (hsrc : Src w vx [u]) (h1 : u.oneCell' = true)
    (b1 : k + 1 ≤ maxLen) (b2 : (k + 1) * bytes ≤ 140737488355328)
    (h : ∀ v' w', Own w' w.heap.size e v' (olds ++ [u]) → Below w.heap.size w w' → K (a.put o.dst v') w') :
    if Region.wanted o (yielded ops a.tmps) = true then Oper.wp P o a w K Q else E := by
  have hw : Region.wanted o (yielded ops a.tmps) = true := by simp [Region.wanted, hgd]
  rw [if_pos hw]
  exact wp_append_view w s x t ho e z bytes ht hinfo hz1 ao k olds hs hlo hv vx u hx hsrc h1 b1 b2 h
theorem src_drop {w : World} {B : Nat} {A A' : Option Addr} {n c n' c' j : Nat} {P : List (List UInt8)} (hr : RdV w B (.slice A n c) (strs P)) (hj : j ≤ P.length) (hn : n' = P.length - j) (hA : c ≠ j → A' = A.map (·.add j)) : Src w (.slice A' n' c') (strs (P.drop j)) := by
  obtain ⟨A0, c0, e0, h1, _, h3⟩ := hr
  injection e0 with e1 e2 e3
  subst e1 e2 e3
  have hl : n' = (strs (P.drop j)).length := by rw [strs_length, List.length_drop]; exact hn
  by_cases hd : P.length = j
  · have e : strs (P.drop j) = [] := by rw [List.drop_eq_nil_of_le (by omega)]; rfl
    rw [e] at hl ⊢
    subst hl
    exact ⟨A', c', rfl, fun _ => rfl, fun ad _ k u hu => by simp at hu⟩
  · rw [strs_length] at h1
    obtain ⟨b, o, rfl, _, hc⟩ := h3 (by rw [strs_length]; omega)
    have hA' := hA (by omega)
    rw [Option.map_some, Addr.add_lit] at hA'
    subst hl hA'
    refine ⟨_, c', rfl, fun e => (by cases e), fun ad e k u hu => ?_⟩
    injection e with e
    subst e
    obtain ⟨hk, rfl⟩ := List.getElem?_eq_some_iff.1 hu
    rw [strs_length, List.length_drop] at hk
    rw [strs_at k (by rw [List.length_drop]; exact hk), Addr.add_lit, Nat.add_assoc, hc (j + k) (by rw [strs_length]; omega), strs_at (j + k) (by omega), List.getElem_drop]
theorem view_take {w : World} {B : Nat} {A ao : Option Addr} {n c k : Nat} {P : List (List UInt8)} (hr : RdV w B (.slice A n c) (strs P)) (hk : k ≤ P.length) (hA : k ≠ 0 → ao = A) : (ao = none → k = 0) ∧ ∀ b, ao = some b → ∀ j u, (strs (P.take k))[j]? = some u → w.cell? (b.add j) = some u := by
  obtain ⟨A0, c0, e0, h1, _, h3⟩ := hr
  injection e0 with e1 e2 e3
  subst e1 e2 e3
  rcases Nat.eq_zero_or_pos k with h0 | h0
  · subst h0
    exact ⟨fun _ => rfl, fun b _ j u hu => by simp [strs] at hu⟩
  · obtain ⟨b, o, rfl, _, hc⟩ := h3 (by rw [strs_length]; omega)
    have := hA (by omega)
    subst this
    refine ⟨fun e => (by cases e), fun b' e j u hu => ?_⟩
    injection e with e
    subst e
    obtain ⟨hj, rfl⟩ := List.getElem?_eq_some_iff.1 hu
    rw [strs_length, List.length_take] at hj
    rw [strs_at j (by rw [List.length_take]; exact hj), Addr.add_lit, hc j (by rw [strs_length]; omega), strs_at j (by omega), List.getElem_take]
theorem take_lt {x : List UInt8} {P : List (List UInt8)} {j : Nat} (h : ∀ y ∈ P.take j, y < x) (hj : j < P.length) (hx : P[j] < x) : ∀ y ∈ P.take (j + 1), y < x := by
  intro y hy
  rw [List.take_succ_eq_append_getElem hj, List.mem_append, List.mem_singleton] at hy
  rcases hy with hy | rfl
  · exact h y hy
  · exact hx
theorem strs_ins (P : List (List UInt8)) (j : Nat) (x : List UInt8) : strs (P.take j) ++ [.string (str x)] ++ strs (P.drop j) = strs (P.take j ++ x :: P.drop j) := by simp [strs]
theorem less_yes {x y : List UInt8} (h : x < y) : Op.bytesLess x y = true := by
  rw [bytesLess_eq]
  exact decide_eq_true h
theorem less_no {x y : List UInt8} (h : ¬ x < y) : Op.bytesLess x y = false := by
  rw [bytesLess_eq]
  exact decide_eq_false h
end Go.Proofs.Ytmimkcdomgoefaa
