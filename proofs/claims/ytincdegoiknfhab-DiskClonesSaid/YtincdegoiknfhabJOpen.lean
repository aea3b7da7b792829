/-
  Calls of a disk that came in as a slice, opened. No condition.
-/
import Derived.Test.YtincdegoiknfhabKOpen
import Derived.Test.YtincdegoiknfhabIsRow
import Derived.Test.YtincdegoiknfhabJAlike
namespace Go.Proofs.Ytincdegoiknfhab
open Go.RowKit Go.ChangeShapes Go.WideShapes

theorem RdI.k {w : World} {v : Value} {l : List Int} (h : RdI w w.heap.size v l) : RdK w (· < w.heap.size) v l := by
  obtain ⟨A, c, h1, h2, h3, h4⟩ := h
  refine ⟨A, c, h1, h2, h3, fun hn => ?_⟩
  obtain ⟨b, o, e1, e2, e3⟩ := h4 hn
  exact ⟨b, o, e1, e2, e2, e3⟩
theorem bytes_open {H : Type} {enc : TypeId × Value → H} {W : World} {n : Nat} {u : Value} {x : DataW H × List MemPlace} (h : DataW.trod enc Try.prog W 0 (fun _ => true) true n 36 [u] = some x) : ∃ l : List UInt8, Rd W W.heap.size u l := by
  rcases open_ints Try.underlying36 Try.underlying5 (by kernel_rfl) h with ⟨hcs, _⟩ | ⟨a, l, c, zs, hcs, _, hl, hm, hz, _, hcell, hwz⟩
  · injection hcs with hcs
    rw [hcs]
    exact ⟨[], Rd.nil _ _⟩
  · injection hcs with hcs
    rw [hcs]
    exact isRow_rd (zs := zs) (.inr ⟨_, rfl, hl, hm, by simpa using hz, hcell, hwz⟩)
theorem ints_open {H : Type} {enc : TypeId × Value → H} {W : World} {n : Nat} {u : Value} {x : DataW H × List MemPlace} (h : DataW.trod enc Try.prog W 0 (fun _ => true) true n 37 [u] = some x) : ∃ l : List Int, RdI W W.heap.size u l := by
  rcases open_ints Try.underlying37 Try.underlying3 (by kernel_rfl) h with ⟨hcs, _⟩ | ⟨a, l, c, zs, hcs, _, hl, hm, hz, _, hcell, hwz⟩
  · injection hcs with hcs
    rw [hcs]
    exact isRow_ints (zs := []) (.inl ⟨rfl, rfl, rfl, rfl⟩)
  · injection hcs with hcs
    rw [hcs]
    exact isRow_ints (zs := zs) (.inr ⟨_, rfl, hl, hm, by simpa using hz, hcell, hwz⟩)
def OpOk (W : World) (B : Nat) (cs : List Value) (o : AOp) : Prop := (∃ Ad cd Ak ck, cs = [.int .i64 o.kind, .string (str o.a), .string (str o.b), .int .i64 o.n, .slice Ad o.data.length cd, .slice Ak o.keep.length ck] ∧ Rdp W (· < B) (.slice Ad o.data.length cd) o.data ∧ RdK W (· < B) (.slice Ak o.keep.length ck) o.keep) ∧ o.a.length ≤ maxLen ∧ o.b.length ≤ maxLen ∧ o.n ≤ 9223372036854775807
set_option maxRecDepth 100000 in
theorem op_parts {H : Type} {enc : TypeId × Value → H} {W : World} {fuel : Nat} {cs : List Value} {x : DataW H × List MemPlace} (hlen : cs.length = 6) (hf : DataW.trod enc Try.prog W 0 (fun _ => true) true fuel 39 cs = some x) : ∃ o, OpOk W W.heap.size cs o := by
  obtain ⟨xs, n, _, _, _, hxl, hg⟩ := DataW.trod_struct Try.underlying39 hf
  have hx6 : xs.length = 6 := hxl
  have ci : Try.prog.cellsOf 3 = 1 := by kernel_rfl
  have cS : Try.prog.cellsOf 9 = 1 := by kernel_rfl
  have cb : Try.prog.cellsOf 36 = 1 := by kernel_rfl
  have ck : Try.prog.cellsOf 37 = 1 := by kernel_rfl
  match cs, hlen with
  | [b0, b1, b2, b3, b4, b5], _ =>
    have g0 := hg 0 _ rfl
    have g1 := hg 1 _ rfl
    have g2 := hg 2 _ rfl
    have g3 := hg 3 _ rfl
    have g4 := hg 4 _ rfl
    have g5 := hg 5 _ rfl
    rw [List.getElem?_eq_getElem (by omega)] at g0 g1 g2 g3 g4 g5
    obtain ⟨a0, e0, _, w0⟩ := DataW.trod_int Try.underlying3 g0
    obtain ⟨a1, e1, _, s1⟩ := DataW.trod_string Try.underlying9 g1
    obtain ⟨a2, e2, _, s2⟩ := DataW.trod_string Try.underlying9 g2
    obtain ⟨a3, e3, _, w3⟩ := DataW.trod_int Try.underlying3 g3
    have q0 : ([b0, b1, b2, b3, b4, b5].drop 0).take (Try.prog.cellsOf 3) = [.int .i64 a0] := e0
    have q1 : ([b0, b1, b2, b3, b4, b5].drop 1).take (Try.prog.cellsOf 9) = [.string a1] := e1
    have q2 : ([b0, b1, b2, b3, b4, b5].drop 2).take (Try.prog.cellsOf 9) = [.string a2] := e2
    have q3 : ([b0, b1, b2, b3, b4, b5].drop 3).take (Try.prog.cellsOf 3) = [.int .i64 a3] := e3
    have q4 : ([b0, b1, b2, b3, b4, b5].drop 4).take (Try.prog.cellsOf 36) = [b4] := by rw [cb]; rfl
    have q5 : ([b0, b1, b2, b3, b4, b5].drop 5).take (Try.prog.cellsOf 37) = [b5] := by rw [ck]; rfl
    have g4' : DataW.trod enc Try.prog W 0 (fun _ => true) true n 36 (([b0, b1, b2, b3, b4, b5].drop 4).take (Try.prog.cellsOf 36)) = some xs[4] := g4
    have g5' : DataW.trod enc Try.prog W 0 (fun _ => true) true n 37 (([b0, b1, b2, b3, b4, b5].drop 5).take (Try.prog.cellsOf 37)) = some xs[5] := g5
    rw [q4] at g4'
    rw [q5] at g5'
    obtain ⟨ld, hd⟩ := bytes_open g4'
    obtain ⟨lk, hk⟩ := ints_open g5'
    rw [ci] at q0 q3
    rw [cS] at q1 q2
    have r0 : b0 = .int .i64 a0 := by simpa using q0
    have r1 : b1 = .string a1 := by simpa using q1
    have r2 : b2 = .string a2 := by simpa using q2
    have r3 : b3 = .int .i64 a3 := by simpa using q3
    have hd' := hd
    have hk' := hk
    obtain ⟨Ad, cd, r4, _⟩ := hd
    obtain ⟨Ak, ck', r5, _⟩ := hk
    subst r0 r1 r2 r3 r4 r5
    refine ⟨⟨a0, a1.data.toList, a2.data.toList, a3, ld, lk⟩, ⟨Ad, cd, Ak, ck', ?_, hd'.rdp, hk'.k⟩, ?_, ?_, (wf_i64 w3).2⟩
    · rw [str_of, str_of]
    · show a1.data.toList.length ≤ maxLen
      rw [Array.length_toList]; exact s1
    · show a2.data.toList.length ≤ maxLen
      rw [Array.length_toList]; exact s2
/-- The slice value v reads in w as these calls. -/
def RdOps (w : World) (v : Value) (L : List AOp) : Prop := ∃ A c, v = .slice A L.length c ∧ L.length ≤ c ∧ c ≤ maxLen ∧ ∀ j (h : j < L.length), ∃ b o cs, A = some ⟨b, o, none⟩ ∧ b < w.heap.size ∧ cs.length = 6 ∧ (∀ i, i < 6 → w.cell? ⟨b, o + j * 6 + i, none⟩ = cs[i]?) ∧ OpOk w w.heap.size cs L[j]
def RdOpsX (w : World) (v : Value) : Prop := ∃ L, RdOps w v L
set_option maxRecDepth 100000 in
theorem ops_open {H : Type} {enc : TypeId × Value → H} {W : World} {base : Nat} {v : Value} {x : DataW H} {p : List MemPlace} (hv : Value.okWide Try.prog W .any base 27 v) (ht : DataW.Trod enc Try.prog W 0 (fun _ => true) true 27 v x p) : RdOpsX W v := by
  obtain ⟨a, n, c, rfl⟩ := okWide_slice Try.underlying27 hv
  obtain ⟨fuel, hf⟩ := ht
  have c6 : Try.prog.cellsOf 39 = 6 := by kernel_rfl
  rcases Deep.open_slice Try.underlying27 hf with ⟨hcs, _⟩ | ⟨ad, len, cap, m, k, D, Pl, hcs, _, hl, hm, hmm, _, hx⟩
  · simp [Value.cells] at hcs
    obtain ⟨rfl, rfl, rfl⟩ := hcs
    exact ⟨[], none, 0, rfl, Nat.le_refl _, Nat.zero_le _, fun j h => absurd h (by simp)⟩
  · simp [Value.cells] at hcs
    obtain ⟨rfl, rfl, rfl⟩ := hcs
    have hmc : m = c := hmm
    subst hmc
    rw [c6] at hx
    have hall : ∀ i, i < n → ∃ o cs, cs.length = 6 ∧ (∀ j, j < 6 → W.cell? ((ad.add (i * 6)).add j) = cs[j]?) ∧ OpOk W W.heap.size cs o := fun i hi => by
      obtain ⟨cs, h1, h2⟩ := hx i (by omega)
      obtain ⟨_, h3, h4⟩ := World.cells?_some h1
      obtain ⟨o, ho⟩ := op_parts h3 h2
      exact ⟨o, cs, h3, h4, ho⟩
    have : ∀ i, ∃ o : AOp, i < n → ∃ cs : List Value, cs.length = 6 ∧ (∀ j, j < 6 → W.cell? ((ad.add (i * 6)).add j) = cs[j]?) ∧ OpOk W W.heap.size cs o := fun i => by
      by_cases hi : i < n
      · obtain ⟨o, h⟩ := hall i hi
        exact ⟨o, fun _ => h⟩
      · exact ⟨⟨0, [], [], 0, [], []⟩, fun h => absurd h hi⟩
    have hV := fun i => Classical.choose_spec (this i)
    have hll : ((List.range n).map fun i => Classical.choose (this i)).length = n := by simp
    refine ⟨(List.range n).map fun i => Classical.choose (this i), some ad, m, by rw [hll], by rw [hll]; exact hl, hm, fun j hj => ?_⟩
    rw [hll] at hj
    obtain ⟨cs, h1, h2, h3⟩ := hV j hj
    obtain ⟨b, o, sp⟩ := ad
    have hsp : sp = none := by
      obtain ⟨cs0, l0, d0, _⟩ := hV 0 (by omega)
      have hz := d0 0 (by omega)
      obtain ⟨u, hu⟩ : ∃ u, cs0[0]? = some u := ⟨_, List.getElem?_eq_getElem (by omega)⟩
      rw [hu] at hz
      have h9 : ((⟨b, o, sp⟩ : Addr).add (0 * 6)).add 0 = ⟨b, o, sp⟩ := by simp [Addr.add]
      rw [h9] at hz
      exact World.cell?_spot hz
    subst hsp
    have hadd : ∀ i, ((⟨b, o, none⟩ : Addr).add (j * 6)).add i = ⟨b, o + j * 6 + i, none⟩ := fun i => by rw [Addr.add_mid, Addr.add_mid]
    refine ⟨b, o, cs, rfl, ?_, h1, fun i hi => by rw [← hadd]; exact h2 i hi, ?_⟩
    · obtain ⟨u, hu⟩ : ∃ u, cs[0]? = some u := ⟨_, List.getElem?_eq_getElem (by omega)⟩
      have hc0 := h2 0 (by omega)
      rw [hu, hadd] at hc0
      exact World.block_lt_of_cell? W _ hc0
    · rw [List.getElem_map, List.getElem_range]
      exact h3
end Go.Proofs.Ytincdegoiknfhab
