/-
  More words for memory: what 'string(b)', 'append(b, c...)', 'append(b, s...)' do to slices that read as bytes. Conditions: lengths within what a slice may have.
-/
import Derived.Test.YtelhdkidnhfnbabGreatDoorMem
import Derived.Lib.AppendStr
import Derived.Laws.CopyOwn
import Derived.Deep.RegionLaw
namespace Go.Proofs.YtelhdkidnhfnbabGreatDoor
open Go.RowKit

/-- The bytes of a list as a string's. -/
def str (l : List UInt8) : ByteArray := ⟨l.toArray⟩
theorem str_toList (l : List UInt8) : (str l).toList = l := by unfold str; simp
theorem str_data (l : List UInt8) : (str l).data.toList = l := rfl
theorem str_size (l : List UInt8) : (str l).size = l.length := by simp [str, ByteArray.size]
attribute [go_sem] str_toList str_size
theorem str_of (s : ByteArray) : str s.data.toList = s := rfl
theorem str_inj {a b : List UInt8} (h : str a = str b) : a = b := by
  have := congrArg (fun s : ByteArray => s.data.toList) h
  exact this

theorem run_conv_rd {P : Program} {w : World} {B : Nat} {v : Value} {l : List UInt8} (src e dst : TypeId) (hs : P.underlying src = some (.slice e)) (he : P.underlying e = some (.int .u8)) (hd : P.underlying dst = some .string)
    (h : Rd w B v l) : (convert src dst v).run P w = .ok (.string (str l)) w := by
  obtain ⟨A, c, rfl, h1, h2, h3⟩ := h
  rcases Nat.eq_zero_or_pos l.length with h0 | h0
  · have : l = [] := List.length_eq_zero_iff.1 h0
    subst this
    rw [run_convert_bytes_string w src dst e A _ c hs he hd]
    cases A with
    | none => simp [Conv.bytesToString, Sem.run_pure]; rfl
    | some a => exact run_bytesToString w a 0 c [] (by simp [loadCells]; rfl)
  · obtain ⟨b, o, rfl, _, hc⟩ := h3 h0
    have := Lib.run_convert_whole (P := P) w src e dst hs he hd b o (str l) (fun i hi => by
      have hi' : i < l.length := by rwa [str_size] at hi
      exact hc i hi') c
    rw [str_size] at this
    exact this

theorem run_append_nilsrc {P : Program} (w : World) (base : Nat) (t ty e : TypeId) (i : TypeInfo) (size : Nat) (ht : P.underlying t = some (.slice e)) (hi : P.info? e = some i)
    (v : Value) (n : Nat) (xs : List Value) (hown : w.ownsRow base e size v n xs) (c : Nat) : (Builtin.append_ #[t, t] ty #[v, .slice none 0 c]).run P w = .ok v w := by
  rcases hown.2 with ⟨rfl, rfl⟩ | ⟨g, cap, cur, rfl, _, _, hnc, _⟩
  · simp [Builtin.append_, run_underlying ht, sizeOf, typeInfo, hi, Builtin.lenOf, Builtin.firstCells]
  · simp [Builtin.append_, run_underlying ht, sizeOf, typeInfo, hi, Builtin.lenOf, Builtin.firstCells, hnc, storeCells]

/-- A slice value whose elements, one cell each, read as 'ys'; an address only where there is one. -/
def Src (w : World) (v : Value) (ys : List Value) : Prop :=
  ∃ A c, v = .slice A ys.length c ∧ (A = none → ys = []) ∧ ∀ ad, A = some ad → ∀ j u, ys[j]? = some u → w.cell? (ad.add j) = some u

theorem Rd.src {w : World} {B : Nat} {v : Value} {l : List UInt8} (h : Rd w B v l) : Src w v (bvs l) := by
  obtain ⟨A, c, rfl, h1, h2, h3⟩ := h
  refine ⟨A, c, by rw [bvs_length], fun e => ?_, fun ad e j u hu => ?_⟩
  · subst e
    rcases Nat.eq_zero_or_pos l.length with h0 | h0
    · rw [List.length_eq_zero_iff.1 h0]; rfl
    · obtain ⟨b, o, e, _⟩ := h3 h0
      cases e
  · obtain ⟨hj, rfl⟩ := bvs_getElem? l j u hu
    obtain ⟨b, o, e', _, hc⟩ := h3 (by omega)
    rw [e] at e'
    injection e' with e'
    subst e'
    rw [← hc j hj]
    simp [Addr.add]
    by_cases hz : j = 0 <;> simp [hz]

/-- The source of 'append(v, x)': one new cell. -/
theorem src_one {w : World} {e : TypeId} {u : Value} {a : Nat} (ha : a = w.heap.size) : Src (w.alloc (.cells #[u] e)) (.slice (some ⟨a, 0, none⟩) 1 1) [u] := by
  subst ha
  refine ⟨_, 1, rfl, fun h => (Option.some_ne_none _ h).elim, ?_⟩
  intro ad had j x hx
  injection had with had
  subst had
  exact cell_one_new w u e j x hx

/-- The cells of a slice value of the call's own stay as they are. -/
def Stays (w w' : World) (v : Value) : Prop := ∀ g n cap, v = .slice (some ⟨g, 0, none⟩) n cap → ∀ j, j < n → w'.cell? ⟨g, j, none⟩ = w.cell? ⟨g, j, none⟩

theorem append_stays {P : Program} (w : World) (base : Nat) (t ty e : TypeId) (i : TypeInfo) (z : Value) (bytes : Nat) (ht : P.underlying t = some (.slice e)) (hi : P.info? e = some i) (hz : i.zero = some z)
    (hsize : i.size = 1) (hby : i.bytes = bytes) (v : Value) (xs : List Value) (hown : Own w base e v xs)
    (a : Addr) (m c : Nat) (news : List Value) (hl : news.length = m) (hnews : ∀ j u, news[j]? = some u → w.cell? (a.add j) = some u) (h1 : ∀ u ∈ news, u.oneCell' = true)
    (h63 : xs.length + m ≤ maxLen) (hbytes : (xs.length + m) * bytes ≤ 140737488355328) (v' : Value) (w' : World)
    (hr : (Builtin.append_ #[t, t] ty #[v, .slice (some a) m c]).run P w = .ok v' w') : Stays w w' v := by
  subst hby
  intro g n cap hv j hj
  subst hv
  have h63' : xs.length + m ≤ 9223372036854775807 := by simp only [maxLen] at h63; omega
  rcases hown.2 with ⟨h, _⟩ | ⟨g', cap', cur, hv, hbg, hg, hnc, hcm, hcs, htake⟩
  · cases h
  · injection hv with e1 e2 e3
    injection e1 with e1
    injection e1 with e1
    subst e1 e2 e3
    by_cases hroom : xs.length + m ≤ cap
    · have hr2 := run_append_room (P := P) w t ty e i ht hi g xs.length cap cur hg a m c news (by rw [hsize]; omega) hnews h1 hroom (by rw [hsize]; omega)
      rw [hr2] at hr
      injection hr with _ hr
      subst hr
      rw [cell_of_row _ g j _ e (0, 0) (setRow_heap w g cur _ e _ hg), cell_of_row w g j cur e (0, 0) hg]
      have hjc : j < cur.size := by omega
      have hjt : j < (cur.toList.take (xs.length * i.size)).length := by have := @Array.length_toList _ cur; rw [hsize, List.length_take]; omega
      have hjt2 : j < (cur.toList.take (xs.length * i.size) ++ news).length := by rw [List.length_append]; omega
      rw [List.getElem?_toArray, List.getElem?_append_left hjt2, List.getElem?_append_left hjt, List.getElem?_take_of_lt (by rw [hsize]; omega), Array.getElem?_toList]
    · have holds : ∀ j u, xs[j]? = some u → w.cell? ((⟨g, 0, none⟩ : Addr).add j) = some u := World.ownsRow.cells hown (g := g) rfl
      have hr2 := run_append_grow (P := P) w t ty e i z ht hi hz ⟨g, 0, none⟩ xs.length cap xs (by rw [hsize]; omega) holds a m c news (by rw [hsize]; omega) hnews (by omega) (by omega) (growslice_fits (by omega) hbytes)
      rw [hr2] at hr
      injection hr with _ hr
      subst hr
      exact World.cell?_of_block (w := w) (heap_alloc_old w.drew _ (World.ownsRow.lt hown g rfl).2)

/-- 'append(v, x...)' onto a row of the call's own. -/
theorem wp_append_src {P : Program} (w : World) {o : Oper} {a : Act} {K : Act → World → Prop} {Q : Exit → Act → World → Prop} (s x : Operand) (t : TypeId)
    (ho : o.op = .call { callee := .builtin .append, args := #[s, x], argTypes := #[t, t] })
    (base : Nat) (e : TypeId) (z : Value) (bytes : Nat) (ht : P.underlying t = some (.slice e)) (hinfo : (P.info? e).map (fun i => (i.zero, i.size, i.bytes)) = some (some z, 1, bytes)) (hz1 : z.cells.size = 1)
    (v : Value) (xs : List Value) (hs : a.eval s = v) (hown : Own w base e v xs) (vx : Value) (ys : List Value) (hx : a.eval x = vx) (hsrc : Src w vx ys) (h1 : ∀ u ∈ ys, u.oneCell' = true)
    (hlen : xs.length + ys.length ≤ maxLen) (hbytes : (xs.length + ys.length) * bytes ≤ 140737488355328) (hbase : base ≤ w.heap.size)
    (h : ∀ v' w', Own w' base e v' (xs ++ ys) → w.grownBy w' v.ownBlock → Below base w w' → Stays w w' v → K (a.put o.dst v') w') :
    o.wp P a w K Q := by
  obtain ⟨i, hi, hz, hsize, hby⟩ := info_parts hinfo
  obtain ⟨A, c, rfl, hnone, hcells⟩ := hsrc
  have key : ∃ v' w', (Builtin.append_ #[t, t] o.type #[v, .slice A ys.length c]).run P w = .ok v' w' ∧ Own w' base e v' (xs ++ ys) ∧ w.grownBy w' v.ownBlock ∧ Stays w w' v := by
    cases A with
    | none =>
      have := hnone rfl
      subst this
      exact ⟨v, w, run_append_nilsrc w base t o.type e i 1 ht hi v xs.length xs hown c, by simpa using hown, World.grownBy.refl w _, fun _ _ _ _ _ _ => rfl⟩
    | some ad =>
      obtain ⟨v', w', hr, h2, h3, _⟩ := run_append_own_at (P := P) w base t o.type e i z 1 bytes ht hi hz hsize hby hz1 (by decide) v xs.length xs hown ad ys.length c ys (by omega) (hcells ad rfl) h1 hlen hbytes hbase
      exact ⟨v', w', hr, by unfold Own; rw [List.length_append]; exact h2, h3, append_stays w base t o.type e i z bytes ht hi hz hsize hby v xs hown ad ys.length c ys rfl (hcells ad rfl) h1 hlen hbytes v' w' hr⟩
  obtain ⟨v', w', hrun, h2, h3, h5⟩ := key
  unfold Oper.wp execOp
  simp only [ho, resolve, invoke, builtin, Sem.run_bind, Sem.run_pure, Result.andThen_ok, List.map_toArray, List.map_cons, List.map_nil, hs, hx, hrun]
  exact h v' w' h2 h3 ((Below.refl _ _).grown h3 hbase fun k hk => (hown.lt k hk).1) h5

theorem wpList_append_src {P : Program} (w : World) {ops : Array Oper} {rest : List Oper} {o : Oper} {a : Act} {Q : Exit → Act → World → Prop} (hgd : o.guard = none) (s x : Operand) (t : TypeId)
    (ho : o.op = .call { callee := .builtin .append, args := #[s, x], argTypes := #[t, t] })
    (base : Nat) (e : TypeId) (z : Value) (bytes : Nat) (ht : P.underlying t = some (.slice e)) (hinfo : (P.info? e).map (fun i => (i.zero, i.size, i.bytes)) = some (some z, 1, bytes)) (hz1 : z.cells.size = 1)
    (v : Value) (xs : List Value) (hs : a.eval s = v) (hown : Own w base e v xs) (vx : Value) (ys : List Value) (hx : a.eval x = vx) (hsrc : Src w vx ys) (h1 : ∀ u ∈ ys, u.oneCell' = true)
    (hlen : xs.length + ys.length ≤ maxLen) (hbytes : (xs.length + ys.length) * bytes ≤ 140737488355328) (hbase : base ≤ w.heap.size)
    (h : ∀ v' w', Own w' base e v' (xs ++ ys) → w.grownBy w' v.ownBlock → Below base w w' → Stays w w' v → wpList P ops Q rest (a.put o.dst v') w') :
    wpList P ops Q (o :: rest) a w :=
  wpList_plain hgd fun _ hK => wp_append_src w s x t ho base e z bytes ht hinfo hz1 v xs hs hown vx ys hx hsrc h1 hlen hbytes hbase fun v' w' h2 h3 h4 h5 => hK _ _ (h v' w' h2 h3 h4 h5)

/-- The same as one step of a region that draws its order. -/
theorem step_append_src {P : Program} (w : World) {ops : Array Oper} {o : Oper} {a : Act} {K : Act → World → Prop} {Q : Exit → Act → World → Prop} {E : Prop} (hgd : o.guard = none) (s x : Operand) (t : TypeId)
    (ho : o.op = .call { callee := .builtin .append, args := #[s, x], argTypes := #[t, t] })
    (base : Nat) (e : TypeId) (z : Value) (bytes : Nat) (ht : P.underlying t = some (.slice e)) (hinfo : (P.info? e).map (fun i => (i.zero, i.size, i.bytes)) = some (some z, 1, bytes)) (hz1 : z.cells.size = 1)
    (v : Value) (xs : List Value) (hs : a.eval s = v) (hown : Own w base e v xs) (vx : Value) (ys : List Value) (hx : a.eval x = vx) (hsrc : Src w vx ys) (h1 : ∀ u ∈ ys, u.oneCell' = true)
    (hlen : xs.length + ys.length ≤ maxLen) (hbytes : (xs.length + ys.length) * bytes ≤ 140737488355328) (hbase : base ≤ w.heap.size)
    (h : ∀ v' w', Own w' base e v' (xs ++ ys) → w.grownBy w' v.ownBlock → Below base w w' → Stays w w' v → K (a.put o.dst v') w') :
    if Region.wanted o (yielded ops a.tmps) = true then Oper.wp P o a w K Q else E := by
  have hw : Region.wanted o (yielded ops a.tmps) = true := by simp [Region.wanted, hgd]
  rw [if_pos hw]
  exact wp_append_src w s x t ho base e z bytes ht hinfo hz1 v xs hs hown vx ys hx hsrc h1 hlen hbytes hbase h

/-- 'append(v, s...)', s a string. -/
theorem wpList_append_str {P : Program} (w : World) {ops : Array Oper} {rest : List Oper} {o : Oper} {a : Act} {Q : Exit → Act → World → Prop} (hgd : o.guard = none) (s x : Operand) (t u : TypeId)
    (ho : o.op = .call { callee := .builtin .append, args := #[s, x], argTypes := #[t, u] })
    (base : Nat) (e : TypeId) (ht : P.underlying t = some (.slice e)) (hu : P.underlying u = some .string) (hinfo : (P.info? e).map (fun i => (i.zero, i.size, i.bytes)) = some (some (.int .u8 0), 1, 1))
    (v : Value) (l : List UInt8) (hs : a.eval s = v) (hown : Own w base e v (bvs l)) (y : ByteArray) (hx : a.eval x = .string y)
    (hlen : l.length + y.size ≤ 140737488355328) (hbase : base ≤ w.heap.size)
    (h : ∀ v' w', Own w' base e v' (bvs (l ++ y.data.toList)) → w.grownBy w' v.ownBlock → Below base w w' → wpList P ops Q rest (a.put o.dst v') w') :
    wpList P ops Q (o :: rest) a w := by
  obtain ⟨i, hi, hz, hsize, hby⟩ := info_parts hinfo
  refine Lib.wpList_append_own_string w hgd s x t u ho base e i ht hu hi hz hsize hby v (bvs l).length (bvs l) hs hown y hx (by rw [bvs_length]; unfold maxLen; omega) (by rw [bvs_length]; omega) hbase ?_
  intro v' w' h2 h3 _
  refine h v' w' ?_ h3 ((Below.refl _ _).grown h3 hbase fun k hk => (hown.lt k hk).1)
  unfold Own
  rw [bvs_append]
  have e1 : bvs y.data.toList = Lib.strCells y := rfl
  rw [e1, List.length_append, Lib.strCells_length]
  exact h2

/-- What is still read behind an append to it. -/
theorem Own.stays {w w' : World} {base e : Nat} {v : Value} {l : List UInt8} (h : Own w base e v (bvs l)) (hs : Stays w w' v) : Rd w' w.heap.size v l := by
  have h' := h
  obtain ⟨h1, h2⟩ := h
  rcases h2 with ⟨rfl, h0⟩ | ⟨g, cap, cur, rfl, hg, hh, hn, hc, hz, ht⟩
  · rw [bvs_length] at h0
    have : l = [] := List.length_eq_zero_iff.1 h0
    subst this
    exact Rd.nil _ _
  · rw [bvs_length] at hs hn
    refine ⟨_, cap, by rw [bvs_length], hn, hc, fun _ => ⟨g, 0, rfl, (World.ownsRow.lt h' g rfl).2, fun j hj => ?_⟩⟩
    rw [Nat.zero_add, hs g l.length cap rfl j hj]
    have := World.ownsRow.cellAt h' j (by rw [bvs_length]; omega)
    rw [this]
    simp [bvs, hj]

end Go.Proofs.YtelhdkidnhfnbabGreatDoor
