/-
  DiskDoes' call: it answers true. Conditions: the number is an int; the slice reads as calls.
-/
import Derived.Test.YtincdegoiknfhabJOpen
namespace Go.Proofs.Ytincdegoiknfhab
open Go.RowKit

/-! ### in plain words: how large a disk gets -/
theorem used_le {k : Nat} : ∀ {L : List AFile}, (∀ f ∈ L, f.bytes.length ≤ k) → usedA L ≤ L.length * k
  | [], _ => by simp [usedA]
  | f :: r, h => by
    have h1 := h f (by simp)
    have h2 := used_le (L := r) fun x hx => h x (by simp [hx])
    unfold usedA at *
    rw [List.map_cons, List.sum_cons, List.length_cons, Nat.add_mul]
    omega
theorem ins_mem {e f : AFile} : ∀ {L : List AFile}, f ∈ insA e L → f = e ∨ f ∈ L
  | [], h => .inl (by simpa [insA] using h)
  | x :: r, h => by
    unfold insA at h
    split at h
    · rcases List.mem_cons.1 h with h | h
      · exact .inl h
      · exact .inr h
    · rcases List.mem_cons.1 h with h | h
      · exact .inr (by simp [h])
      · rcases ins_mem h with h | h
        · exact .inl h
        · exact .inr (by simp [h])
theorem ins_len (e : AFile) : ∀ L : List AFile, (insA e L).length = L.length + 1
  | [] => rfl
  | x :: r => by
    unfold insA
    split
    · rfl
    · rw [List.length_cons, List.length_cons, ins_len e r]
def St (i : Nat) (A : ADisk) : Prop := -1 ≤ A.lasts ∧ A.lasts ≤ 9223372036854775807 ∧ 0 ≤ A.deeds ∧ A.deeds ≤ i ∧ A.L.length ≤ i ∧ ∀ f ∈ A.L, f.bytes.length ≤ 1000 * i ∧ f.name.length ≤ 100
theorem St.next {i : Nat} {A : ADisk} (h : St i A) : St (i + 1) A := ⟨h.1, h.2.1, h.2.2.1, by have := h.2.2.2.1; omega, by have := h.2.2.2.2.1; omega, fun f hf => by have := h.2.2.2.2.2 f hf; omega⟩
theorem St.wf {i : Nat} {A : ADisk} (h : St i A) (hi : i ≤ 400) : WfA A ∧ NamesA A := by
  obtain ⟨h1, h2, h3, h4, h5, h6⟩ := h
  have hu := used_le (L := A.L) (k := 1000 * i) fun f hf => (h6 f hf).1
  have hu2 : A.L.length * (1000 * i) ≤ 400 * (1000 * 400) := Nat.mul_le_mul (by omega) (by omega)
  exact ⟨⟨h1, h2, h3, by omega, by omega, by omega⟩, fun f hf => by have := (h6 f hf).2; omega⟩
/-- A disk of other files. -/
theorem St.files {i : Nat} {A : ADisk} (h : St i A) {L : List AFile} (h1 : L.length ≤ i + 1) (h2 : ∀ f ∈ L, f.bytes.length ≤ 1000 * (i + 1) ∧ f.name.length ≤ 100) : St (i + 1) { A with L := L } ∧ St (i + 1) (spendA { A with L := L }) ∧ St (i + 1) { spendA A with L := L } := by
  obtain ⟨a1, a2, a3, a4, a5, a6⟩ := h
  have base : ∀ (B : ADisk), B.L = L → -1 ≤ B.lasts → B.lasts ≤ 9223372036854775807 → 0 ≤ B.deeds → B.deeds ≤ i + 1 → St (i + 1) B := fun B hB b1 b2 b3 b4 => ⟨b1, b2, b3, by omega, by rw [hB]; exact h1, by rw [hB]; exact h2⟩
  refine ⟨base _ rfl a1 a2 a3 (by show A.deeds ≤ _; omega), ?_, ?_⟩
  · unfold spendA
    by_cases h0 : A.lasts = 0
    · rw [if_pos h0]; exact base _ rfl a1 a2 a3 (by show A.deeds ≤ _; omega)
    · rw [if_neg h0]
      refine base _ rfl ?_ ?_ (by show 0 ≤ A.deeds + 1; omega) (by show A.deeds + 1 ≤ _; omega) <;>
      · show _ ≤ _
        dsimp only
        split <;> omega
  · unfold spendA
    by_cases h0 : A.lasts = 0
    · rw [if_pos h0]; exact base _ rfl a1 a2 a3 (by show A.deeds ≤ _; omega)
    · rw [if_neg h0]
      refine base _ rfl ?_ ?_ (by show 0 ≤ A.deeds + 1; omega) (by show A.deeds + 1 ≤ _; omega) <;>
      · show _ ≤ _
        dsimp only
        split <;> omega
theorem St.spend {i : Nat} {A : ADisk} (h : St i A) : St (i + 1) (spendA A) := (h.files (L := A.L) (by have := h.2.2.2.2.1; omega) (fun f hf => by have := h.2.2.2.2.2 f hf; omega)).2.1
theorem mem_upd {e f : AFile} {L : List AFile} (h : f ∈ updA e L) : f = e ∨ f ∈ L := by
  obtain ⟨g, hg, rfl⟩ := List.mem_map.1 (show f ∈ L.map _ from h)
  by_cases hn : g.name = e.name
  · rw [if_pos hn]; exact .inl rfl
  · rw [if_neg hn]; exact .inr hg
theorem mem_del {n : List UInt8} {f : AFile} {L : List AFile} (h : f ∈ delA n L) : f ∈ L := (List.mem_filter.1 h).1
theorem mem_putA {e f : AFile} {L : List AFile} (h : f ∈ putA e L) : f = e ∨ f ∈ L := by
  rcases ins_mem (show f ∈ insA e (delA e.name L) from h) with h | h
  · exact .inl h
  · exact .inr (mem_del h)
theorem putA_len (e : AFile) (L : List AFile) : (putA e L).length ≤ L.length + 1 := by
  show (insA e (delA e.name L)).length ≤ _
  rw [ins_len]
  have : (delA e.name L).length ≤ L.length := List.length_filter_le _ _
  omega
theorem del_len (n : List UInt8) (L : List AFile) : (delA n L).length ≤ L.length := List.length_filter_le _ _
theorem upd_len (e : AFile) (L : List AFile) : (updA e L).length = L.length := List.length_map _
theorem crash_mem : ∀ (L : List AFile) (ks : List Int) (f : AFile), f ∈ (crash2 L ks).1 → ∃ g ∈ L, f.bytes.length ≤ g.bytes.length ∧ f.name = g.name
  | [], _, f, h => by cases h
  | x :: r, ks, f, h => by
    rw [crash2] at h
    by_cases hs : x.safe = x.bytes.length
    · rw [if_pos hs] at h
      rcases List.mem_cons.1 h with rfl | h
      · exact ⟨f, by simp, Nat.le_refl _, rfl⟩
      · obtain ⟨g, hg, h2⟩ := crash_mem r ks f h
        exact ⟨g, by simp [hg], h2⟩
    · rw [if_neg hs] at h
      rcases List.mem_cons.1 h with rfl | h
      · exact ⟨x, by simp, by show (List.take _ x.bytes).length ≤ _; rw [List.length_take]; omega, rfl⟩
      · obtain ⟨g, hg, h2⟩ := crash_mem r ks.tail f h
        exact ⟨g, by simp [hg], h2⟩
def Small (o : AOp) : Prop := o.data.length ≤ 1000 ∧ o.a.length ≤ 100 ∧ o.b.length ≤ 100
theorem atA_mem {L : List AFile} {n : List UInt8} {e : AFile} (h : atA L n = some e) : e ∈ L := List.mem_of_find?_eq_some h
theorem st_step {i : Nat} {A : ADisk} (h : St i A) {o : AOp} (ho : Small o) (hn : o.n ≤ 9223372036854775807) : St (i + 1) (doA A o) := by
  obtain ⟨o1, o2, o3⟩ := ho
  have hl := h.2.2.2.2.1
  have hf := h.2.2.2.2.2
  have hf' : ∀ f ∈ A.L, f.bytes.length ≤ 1000 * (i + 1) ∧ f.name.length ≤ 100 := fun f hx => by have := hf f hx; omega
  unfold doA
  split
  · unfold appendA
    split
    · exact h.next
    split
    · exact h.next
    split
    · exact h.next
    refine (h.files (L := grownL A.L o.a o.data) ?_ ?_).2.1
    · unfold grownL
      split
      · rw [upd_len]; omega
      · have := putA_len ⟨o.a, o.data, 0⟩ A.L; omega
    · intro f hx
      unfold grownL at hx
      split at hx
      · rename_i e he
        have hm := hf e (atA_mem he)
        rcases mem_upd hx with rfl | hx
        · refine ⟨?_, hm.2⟩
          show (e.bytes ++ o.data).length ≤ _
          rw [List.length_append]; omega
        · exact hf' f hx
      · rcases mem_putA hx with rfl | hx
        · exact ⟨by show o.data.length ≤ _; omega, o2⟩
        · exact hf' f hx
  split
  · unfold syncA
    split
    · exact h.next
    split
    · exact h.next
    · rename_i e he
      split
      · exact h.spend
      · refine (h.files (L := updA { e with safe := e.bytes.length } A.L) (by rw [upd_len]; omega) fun f hx => ?_).2.2
        rcases mem_upd hx with rfl | hx
        · exact hf' e (atA_mem he)
        · exact hf' f hx
  split
  · unfold renameA
    split
    · exact h.next
    split
    · exact h.next
    split
    · exact h.next
    · rename_i e he
      split
      · exact h.spend
      · refine (h.files (L := putA { e with name := o.b } (delA o.a A.L)) ?_ fun f hx => ?_).2.2
        · have h1 := putA_len { e with name := o.b } (delA o.a A.L)
          have h2 := del_len o.a A.L
          omega
        · rcases mem_putA hx with rfl | hx
          · exact ⟨(hf' e (atA_mem he)).1, o3⟩
          · exact hf' f (mem_del hx)
  split
  · unfold deleteA
    split
    · exact h.next
    split
    · exact h.next
    · split
      · exact h.spend
      · exact (h.files (L := delA o.a A.L) (by have h2 := del_len o.a A.L; omega) fun f hx => hf' f (mem_del hx)).2.2
  split
  · unfold stopA
    split
    · exact h.next
    · have h' := h.next
      exact ⟨by show -1 ≤ o.n; omega, hn, h'.2.2.1, h'.2.2.2.1, h'.2.2.2.2.1, h'.2.2.2.2.2⟩
  split
  · have h' := h.next
    refine ⟨by show (-1 : Int) ≤ -1; omega, by show (-1 : Int) ≤ _; omega, h'.2.2.1, h'.2.2.2.1, ?_, fun f hx => ?_⟩
    · show (crash2 A.L o.keep).1.length ≤ _
      rw [crash2_len]; omega
    · obtain ⟨g, hg, h1, h2⟩ := crash_mem A.L o.keep f hx
      have := hf' g hg
      rw [h2]
      omega
  · exact h.next
theorem st_zero (q : Int) : St 0 ⟨q, 0, -1, false, []⟩ := ⟨by show (-1 : Int) ≤ -1; omega, by show (-1 : Int) ≤ _; omega, by show (0 : Int) ≤ 0; omega, by show (0 : Int) ≤ _; omega, Nat.le_refl _, fun f hf => by cases hf⟩
/-! ### are calls too many, or too large? -/
def largeOp (o : AOp) : Bool := decide (1000 < o.data.length) || (decide (100 < o.a.length) || decide (100 < o.b.length))
def largeB (L : List AOp) : Bool := decide (150 < L.length) || L.any largeOp
theorem not_large {L : List AOp} (h : largeB L = false) : L.length ≤ 150 ∧ ∀ o ∈ L, Small o := by
  unfold largeB at h
  rw [Bool.or_eq_false_iff, decide_eq_false_iff_not, List.any_eq_false] at h
  refine ⟨by omega, fun o ho => ?_⟩
  have := h.2 o ho
  unfold largeOp at this
  simp only [Bool.or_eq_true, decide_eq_true_eq, not_or] at this
  unfold Small
  omega
def LargeRel (L : List AOp) (u : Value) : Prop := ∃ i : Nat, i ≤ L.length ∧ (∀ j (h : j < L.length), j < i → largeOp L[j] = false) ∧ u = .int .i64 (i : Int)
/-- The cells of a call in its slice. -/
theorem RdOps.at_ {w W : World} {v : Value} {L : List AOp} (h : RdOps w v L) (hb : Below w.heap.size w W) {j : Nat} (hj : j < L.length) :
    ∃ b o c Ad cd Ak ck, v = .slice (some ⟨b, o, none⟩) L.length c ∧ L.length ≤ c ∧ W.cell? ⟨b, o + j * 6, none⟩ = some (.int .i64 L[j].kind) ∧ W.cell? ⟨b, o + j * 6 + 1, none⟩ = some (.string (str L[j].a)) ∧ W.cell? ⟨b, o + j * 6 + 2, none⟩ = some (.string (str L[j].b)) ∧ W.cell? ⟨b, o + j * 6 + 3, none⟩ = some (.int .i64 L[j].n) ∧ W.cell? ⟨b, o + j * 6 + 4, none⟩ = some (.slice Ad L[j].data.length cd) ∧ W.cell? ⟨b, o + j * 6 + 5, none⟩ = some (.slice Ak L[j].keep.length ck) ∧ L[j].n ≤ 9223372036854775807 ∧
      OpAt W w.heap.size (.agg #[.int .i64 L[j].kind, .string (str L[j].a), .string (str L[j].b), .int .i64 L[j].n, .slice Ad L[j].data.length cd, .slice Ak L[j].keep.length ck]) L[j] := by
  obtain ⟨A, c, rfl, h1, h2, h3⟩ := h
  obtain ⟨b, o, cs, rfl, hbs, hl, hc, ⟨Ad, cd, Ak, ck, rfl, hrd, hrk⟩, ha, hbb, hn⟩ := h3 j hj
  have hW : ∀ i, i < 6 → W.cell? ⟨b, o + j * 6 + i, none⟩ = ([Value.int .i64 L[j].kind, .string (str L[j].a), .string (str L[j].b), .int .i64 L[j].n, .slice Ad L[j].data.length cd, .slice Ak L[j].keep.length ck] : List Value)[i]? := fun i hi => (hb.cell (p := ⟨b, o + j * 6 + i, none⟩) hbs).trans (hc i hi)
  exact ⟨b, o, c, Ad, cd, Ak, ck, rfl, h1, hW 0 (by omega), hW 1 (by omega), hW 2 (by omega), hW 3 (by omega), hW 4 (by omega), hW 5 (by omega), hn, Ad, cd, Ak, ck, rfl, hrd.up hb (fun _ h => h), hrk.up hb (fun _ h => h), ha, hbb⟩
set_option maxHeartbeats 3200000 in
set_option maxRecDepth 100000 in
theorem rlarge {w W : World} {v : Value} {L : List AOp} (h : RdOps w v L) (hb : Below w.heap.size w W) : Calls Try.prog 12 #[v] W (Ans W (.bool (largeB L))) := by
  have hsh : ∃ A c, v = .slice A L.length c := by obtain ⟨A, c, h1, _⟩ := h; exact ⟨A, c, h1⟩
  obtain ⟨A, c, hv⟩ := hsh
  by_cases h150 : 150 < L.length
  · have hv2 : largeB L = true := by unfold largeB; rw [decide_eq_true h150]; rfl
    rw [hv2]
    subst hv
    have hI : (150 : Int) < (L.length : Int) := by omega
    clear h hb hv2
    go_enter Try.func12, Try.ntmps12
    go_wp2_with fail
    go_ret
    exact ⟨rfl, rfl⟩
  · have H := Lib.hid h
    have HB := Lib.hid hb
    have hI : ¬ (150 : Int) < (L.length : Int) := by omega
    obtain ⟨ans, hans⟩ : ∃ ans, ans = largeB L := ⟨_, rfl⟩
    rw [← hans]
    have HA := Lib.hid hans
    clear h hb hans
    have HV := Lib.hid hv
    subst hv
    go_enter Try.func12, Try.ntmps12
    go_wp2_with fail
    go_loop [3] (LargeRel L) (fun u => L.length - (intOf u).toNat)
    case atStart => exact ⟨0, Nat.zero_le _, fun j _ hj => absurd hj (by omega), rfl⟩
    case round =>
      obtain ⟨i, hi, hall, rfl⟩ := hrel
      have HALL := Lib.hid hall
      clear hall
      by_cases hlt : i < L.length
      · obtain ⟨b, o, c', Ad, cd, Ak, ck, hv2, hcc, x0, x1, x2, x3, x4, x5, hn, hop⟩ := H.out.at_ HB.out hlt
        injection hv2 with e1 _ e3
        subst e1 e3
        have hiI : (i : Int) < (L.length : Int) := by omega
        have hlo : largeOp L[i] = (decide (1000 < L[i].data.length) || (decide (100 < L[i].a.length) || decide (100 < L[i].b.length))) := rfl
        have HLO := Lib.hid hlo
        have HANY : Hid (largeOp L[i] = true → ans = true) := Lib.hid fun h => by
          rw [HA.out]
          unfold largeB
          rw [Bool.or_eq_true]
          exact .inr (List.any_eq_true.2 ⟨L[i], List.getElem_mem hlt, h⟩)
        have HNXT : Hid (largeOp L[i] = false → ∀ j (h : j < L.length), j < i + 1 → largeOp L[j] = false) := Lib.hid fun h j hj hji => by
          by_cases hji2 : j < i
          · exact HALL.out j hj hji2
          · have : j = i := by omega
            subst this
            exact h
        clear hlo x0 x3 x5 hn hop
        generalize L[i] = p at *
        by_cases c1 : 1000 < p.data.length
        · have c1I : (1000 : Int) < (p.data.length : Int) := by omega
          have HE : Hid (ans = true) := Lib.hid (HANY.out (by rw [HLO.out, decide_eq_true c1]; rfl))
          go_wp2_with fail
          go_ret
          exact ⟨by rw [HE.out]; rfl, rfl⟩
        · have c1I : ¬ (1000 : Int) < (p.data.length : Int) := by omega
          by_cases c2 : 100 < p.a.length
          · have c2I : (100 : Int) < (p.a.length : Int) := by omega
            have HE : Hid (ans = true) := Lib.hid (HANY.out (by rw [HLO.out, decide_eq_true c2, Bool.true_or, Bool.or_true]))
            go_wp2_with fail
            go_ret
            exact ⟨by rw [HE.out]; rfl, rfl⟩
          · have c2I : ¬ (100 : Int) < (p.a.length : Int) := by omega
            by_cases c3 : 100 < p.b.length
            · have c3I : (100 : Int) < (p.b.length : Int) := by omega
              have HE : Hid (ans = true) := Lib.hid (HANY.out (by rw [HLO.out, decide_eq_true c3, Bool.or_true, Bool.or_true]))
              go_wp2_with fail
              go_ret
              exact ⟨by rw [HE.out]; rfl, rfl⟩
            · have c3I : ¬ (100 : Int) < (p.b.length : Int) := by omega
              have HE := Lib.hid (HNXT.out (by rw [HLO.out, decide_eq_false c1, decide_eq_false c2, decide_eq_false c3]; rfl))
              go_wp2_with fail
              go_round
              case rel => exact ⟨i + 1, by omega, HE.out, by go_num⟩
              case measure => simp [intOf]; omega
      · have hke : i = L.length := by omega
        subst hke
        have HE : Hid (ans = false) := Lib.hid (by
          rw [HA.out]
          unfold largeB
          rw [Bool.or_eq_false_iff]
          refine ⟨decide_eq_false h150, List.any_eq_false.2 fun x hx => ?_⟩
          obtain ⟨j, hj, rfl⟩ := List.getElem_of_mem hx
          rw [HALL.out j hj hj]
          exact Bool.false_ne_true)
        go_wp2_with fail
        go_ret
        exact ⟨by rw [HE.out]; rfl, rfl⟩

/-! ### the call -/
def DoesRel (L : List AOp) (lo g b gx : Nat) (w : World) (u : Value) (W : World) : Prop := ∃ (i : Nat) (d : KDisk) (x : RDisk), i ≤ L.length ∧ u = .int .i64 (i : Int) ∧ Pair W lo g b d gx x ∧ absD d = absR x ∧ St i (absD d) ∧ Below lo w W
theorem RDiskAt.more {w : World} {lo lo' g : Nat} {d : RDisk} (h : RDiskAt w lo g d) (hl : lo' ≤ lo) : RDiskAt w lo' g d :=
  ⟨Nat.le_trans hl h.1, h.2.1, ownsRow_more h.2.2.1 hl, h.2.2.2⟩
/-- Two new disks. -/
theorem pair_new {w w1 w2 : World} {g b gx : Nat} {q : Int} (h1 : DiskAt w1 w.heap.size g b (newD q)) (b1 : Below w.heap.size w w1) (h2 : RDiskAt w2 w1.heap.size gx (newR q)) (b2 : Below w1.heap.size w1 w2) : Pair w2 w.heap.size g b (newD q) gx (newR q) :=
  ⟨h1.below b2, h2.more b1.size, fun k hk hk' => by
    have h3 := (h1.lt k hk).2
    rcases hk' with hk' | hk' | ⟨e, he, _⟩
    · have h4 := (h2.rw_lt k (.inl hk')).1; omega
    · have h4 := (h2.rw_lt k (.inr hk')).1; omega
    · cases he⟩
def NoRel (w : World) (u : Value) (W : World) : Prop := u = .int .i64 0 ∧ w = W
set_option maxHeartbeats 6400000 in
set_option maxRecDepth 100000 in
theorem ddoes_any (q : Int) (v : Value) (w : World) (hv : RdOpsX w v) : Calls Try.prog 4 #[.int .i64 q, v] w (Holds w) := by
  obtain ⟨L, hL⟩ := hv
  have HL := Lib.hid hL
  obtain ⟨A, c, hvv, hlc, hcm, hcells⟩ := hL
  clear hcells
  by_cases hq : q < 0 ∨ 16777216 < q
  · have k1 := knew_no q w hq
    have k2 := rnew_no q w hq
    have K1 := Lib.hid k1
    have K2 := Lib.hid k2
    cases hlb : largeB L with
    | true =>
      have HLB := Lib.hid hlb
      clear k1 k2 hlc hcm hvv hlb
      go_enter Try.func4, Try.ntmps4
      go_wp2_with (first
        | (go_at_call 9; refine K1.out.mono ?_; rintro e w' ⟨rfl, rfl⟩)
        | (go_at_call 10; refine K2.out.mono ?_; rintro e w' ⟨rfl, rfl⟩)
        | (go_at_call 11; refine (klives_any _).mono ?_; rintro e w1 ⟨rfl, b1⟩; have kl := rlarge HL.out b1; rw [HLB.out] at kl; have KL := Lib.hid kl; have HB1 := Lib.hid b1; clear kl b1)
        | (go_at_call 12; refine KL.out.mono ?_; rintro e w1 ⟨rfl, rfl⟩))
      go_ret
      exact ⟨rfl, HB1.out⟩
    | false =>
      have HLB := Lib.hid hlb
      subst hvv
      clear k1 k2 hlc hcm hlb
      go_enter Try.func4, Try.ntmps4
      go_wp2_with (first
        | (go_at_call 9; refine K1.out.mono ?_; rintro e w' ⟨rfl, rfl⟩)
        | (go_at_call 10; refine K2.out.mono ?_; rintro e w' ⟨rfl, rfl⟩)
        | (go_at_call 11; refine (klives_any _).mono ?_; rintro e w1 ⟨rfl, b1⟩; have kl := rlarge HL.out b1; rw [HLB.out] at kl; have KL := Lib.hid kl; have HB1 := Lib.hid b1; clear kl b1)
        | (go_at_call 12; refine KL.out.mono ?_; rintro e w1 ⟨rfl, rfl⟩))
      go_loopw [8] (NoRel w1) (fun _ _ => 0)
      case atStart => exact ⟨rfl, rfl⟩
      case round =>
        obtain ⟨rfl, rfl⟩ := hrel
        by_cases h0 : 0 < L.length
        · have h0I : (0 : Int) < (L.length : Int) := by omega
          go_wp2_with fail
          go_ret
          exact ⟨rfl, HB1.out⟩
        · have h0I : ¬ (0 : Int) < (L.length : Int) := by omega
          go_wp2_with fail
          go_ret
          exact ⟨rfl, HB1.out⟩
  · have k1 := knew q w (fun h => hq (.inl h)) (fun h => hq (.inr h))
    have K1 := Lib.hid k1
    have HQ := Lib.hid hq
    cases hlb : largeB L with
    | true =>
      have HLB := Lib.hid hlb
      clear k1 hlc hcm hvv hlb hq
      go_enter Try.func4, Try.ntmps4
      go_wp2_with (first
        | (go_at_call 9; refine K1.out.mono ?_; rintro e w1 ⟨g, b, rfl, hd1, b1⟩; have HB1 := Lib.hid b1; clear hd1 b1)
        | (go_at_call 10; refine (rnew q _ (fun h => HQ.out (.inl h)) (fun h => HQ.out (.inr h))).mono ?_; rintro e w2 ⟨gx, rfl, hx2, b2⟩; have HB2 := Lib.hid (HB1.out.trans (b2.mono HB1.out.size)); clear hx2 b2)
        | (go_at_call 11; refine (klives_any _).mono ?_; rintro e w3 ⟨rfl, b3⟩; have HB3 := Lib.hid (HB2.out.trans (b3.mono HB2.out.size)); have kl := rlarge HL.out HB3.out; rw [HLB.out] at kl; have KL := Lib.hid kl; clear kl b3)
        | (go_at_call 12; refine KL.out.mono ?_; rintro e w3 ⟨rfl, rfl⟩))
      go_ret
      exact ⟨rfl, HB3.out⟩
    | false =>
      have HLB := Lib.hid hlb
      have HSM := Lib.hid (not_large hlb)
      have hl150 : L.length ≤ 150 := (not_large hlb).1
      have HVV := Lib.hid hvv
      subst hvv
      clear k1 hlc hcm hlb hq
      go_enter Try.func4, Try.ntmps4
      go_wp2_with (first
        | (go_at_call 9; refine K1.out.mono ?_; rintro e w1 ⟨g, b, rfl, hd1, b1⟩; have HD1 := Lib.hid hd1; have HB1 := Lib.hid b1; clear hd1 b1)
        | (go_at_call 10; refine (rnew q _ (fun h => HQ.out (.inl h)) (fun h => HQ.out (.inr h))).mono ?_; rintro e w2 ⟨gx, rfl, hx2, b2⟩; have HP2 := Lib.hid (pair_new HD1.out HB1.out hx2 b2); have HB2 := Lib.hid (HB1.out.trans (b2.mono HB1.out.size)); clear hx2 b2)
        | (go_at_call 11; refine (klives_any _).mono ?_; rintro e w3 ⟨rfl, b3⟩; have HP3 := Lib.hid (HP2.out.below b3); have HB3 := Lib.hid (HB2.out.trans (b3.mono HB2.out.size)); have kl := rlarge HL.out HB3.out; rw [HLB.out] at kl; have KL := Lib.hid kl; clear kl b3)
        | (go_at_call 12; refine KL.out.mono ?_; rintro e w3 ⟨rfl, rfl⟩))
      go_loopw [8] (DoesRel L w.heap.size g b gx w) (fun u _ => L.length - (intOf u).toNat)
      case atStart => exact ⟨0, newD q, newR q, Nat.zero_le _, rfl, HP3.out, rfl, st_zero q, HB3.out⟩
      case round =>
        obtain ⟨i, d, x, hil, rfl, hp, hab, hst, hbw⟩ := hrel
        have HP := Lib.hid hp
        have HAB := Lib.hid hab
        have HST := Lib.hid hst
        have HBW := Lib.hid hbw
        clear hp hab hst hbw
        by_cases hlt : i < L.length
        · obtain ⟨bo, o, c', Ad, cd, Ak, ck, hv2, hcc, x0, x1, x2, x3, x4, x5, hn, hop⟩ := HL.out.at_ HBW.out hlt
          injection hv2 with e1 _ e3
          subst e1 e3
          have hiI : (i : Int) < (L.length : Int) := by omega
          have hsm := HSM.out.2 _ (List.getElem_mem hlt)
          have hwf := HST.out.wf (by omega)
          have hst2 := st_step HST.out hsm hn
          have HSM2 := Lib.hid hsm
          have HWF := Lib.hid hwf
          have HST2 := Lib.hid hst2
          have HOP := Lib.hid hop
          clear hn hop hsm hwf hst2
          generalize L[i] = p at *
          have kd := rdo HP.out HAB.out HWF.out.1 HWF.out.2 HOP.out (by have := HSM2.out.2.1; omega) (by have := HSM2.out.2.2; omega) (by have := HSM2.out.1; omega)
          have KD := Lib.hid kd
          clear kd
          go_wp2_with (first
            | (go_at_call 13; refine KD.out.mono ?_; rintro e w5 ⟨rfl, b5, d5, x5', hp5, ha5, hx5⟩; have HP5 := Lib.hid hp5; have HA5 := Lib.hid ha5; have HX5 := Lib.hid hx5; have HB5 := Lib.hid (HBW.out.trans b5); have HS5 := Lib.hid ha5; clear hp5 ha5 hx5 b5 x0 x1 x2 x3 x4 x5)
            | (go_at_call 14; refine (ralike HP5.out (by rw [HA5.out, HX5.out]) (by rw [HA5.out]; exact (HST2.out.wf (by omega)).1) (by rw [HA5.out]; exact (HST2.out.wf (by omega)).2)).mono ?_; rintro e w6 ⟨rfl, b6⟩; have HB6 := Lib.hid b6; clear b6))
          go_roundw
          case rel => exact ⟨i + 1, d5, x5', by omega, by go_num, HP5.out.below HB6.out, by rw [HA5.out, HX5.out], by rw [HA5.out]; exact HST2.out, HB5.out.trans (HB6.out.mono HB5.out.size)⟩
          case measure => simp [intOf]; omega
        · have hke : i = L.length := by omega
          subst hke
          go_wp2_with fail
          go_ret
          exact ⟨rfl, HBW.out⟩
end Go.Proofs.Ytincdegoiknfhab
