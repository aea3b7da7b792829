/-
  A text is put to the reader's: WriteString, with all that it leaves as it was; how many tokens there are. Condition: lengths are lengths; the rows lie above the reader.
-/
import Derived.Test.YtelhdkidnhfnbaaDoorXAdd
import Derived.StringKeys
import Derived.Maps.OwnSet
import Derived.Maps.OwnOps
import Derived.Maps.Views
namespace Go.Proofs.YtelhdkidnhfnbaaDoor
open Go.RowKit

theorem copyO_any {w : World} {g base : Nat} {l out : List UInt8} {tk p bf : Value} (hr : RdrAt w g l tk p bf) (hp : p = .pointer none ∨ p = selfP g) (ho : Own w base 5 bf (bvs out)) (hg : g < base) :
    Calls Tryd.prog 60 #[selfP g] w (fun e w' => e = .returned (.tuple #[]) ∧ RdrAt w' g l tk (selfP g) bf ∧ Own w' base 5 bf (bvs out) ∧ w.grownBy w' (some g) ∧ w'.heap.size = w.heap.size) := by
  rcases hp with rfl | rfl
  · refine (copy_fresh hr).mono ?_
    rintro e w' ⟨rfl, rfl⟩
    exact ⟨rfl, hr.set 2 _, ho.setB hg 2 _, grown_set _ g 2 _, by simp [World.setCell]⟩
  · refine (copy_used hr).mono ?_
    rintro e w' ⟨rfl, rfl⟩
    exact ⟨rfl, hr, ho, World.grownBy.refl _ _, rfl⟩
def PutAns (w : World) (base g : Nat) (l : List UInt8) (tk bf : Value) (out : List UInt8) (v : Value) (e : Ending) (w' : World) : Prop :=
  e = .returned v ∧ ∃ bf', RdrAt w' g l tk (selfP g) bf' ∧ Own w' base 5 bf' (bvs out) ∧ Off (fun k => k = g ∨ bf.ownBlock = some k) w w'
set_option maxHeartbeats 1000000 in
theorem inWriteO_any {w : World} {g base : Nat} {l out : List UInt8} {tk p bf : Value} (hr : RdrAt w g l tk p bf) (hp : p = .pointer none ∨ p = selfP g) (ho : Own w base 5 bf (bvs out)) (hg : g < base) (hb : base ≤ w.heap.size) (s : List UInt8) (hl : out.length + s.length ≤ 140737488355328) :
    Calls Tryd.prog 37 #[selfP g, .string (str s)] w (PutAns w base g l tk bf (out ++ s) (.tuple #[.int .i64 (s.length : Int), .nilIface])) := by
  have k1 := copyO_any hr hp ho hg
  unfold selfP at *
  have K1 := Lib.hid k1
  have HG := Lib.hid hg
  have HB := Lib.hid hb
  have HL := Lib.hid hl
  clear hr hp ho k1 hg hb hl
  go_enter Tryd.func37, Tryd.ntmps37
  go_wp2_with (first
    | (go_at_call 60; refine K1.out.mono ?_; rintro e w1 ⟨rfl, h1, o1, s1, z1⟩; obtain ⟨A, c, hbf⟩ := ownB_shape o1; subst hbf; have c3 : w1.cell? ⟨g, 3, none⟩ = some (.slice A out.length c) := h1.cell 3; have H1 := Lib.hid h1; have O1 := Lib.hid o1; have S1 := Lib.hid s1; have Z1 := Lib.hid z1; clear h1 o1 s1 z1)
    | (at_builtin; go_must (refine wpList_append_str _ rfl (.tmp 12) (.tmp 13) _ _ rfl base 5 Tryd.underlying41 Tryd.underlying9 Tryd.u8info _ _ rfl (by exact O1.out) (str s) rfl (by rw [str_size]; have := HL.out; omega) (by have := HB.out; have := Z1.out; omega) ?_); intro v2 w2 hown2 hg2 hb2; have h2 : RdrAt w2 g l tk (.pointer (some ⟨g, 2, none⟩)) (.slice A out.length c) := H1.out.below hb2 HG.out; have c4 : w2.cell? ⟨g, 3, none⟩ = some (.slice A out.length c) := h2.cell 3; have f4 : w2.frozen? ⟨g, 3, none⟩ = false := h2.free 3; obtain ⟨A2, c2, hbf2⟩ := ownB_shape (by rw [str_data] at hown2; exact hown2); subst hbf2; have H2 := Lib.hid h2; have O2 := Lib.hid hown2; have B2 := Lib.hid hg2; clear h2 hown2 hb2 hg2))
  go_ret2
  refine ⟨rfl, _, H2.out.set 3 _, by have h := O2.out; rw [str_data, List.length_append] at h; exact h.setB HG.out 3 _, ?_⟩
  have q1 : Off (fun k => k = g ∨ (Value.slice A out.length c).ownBlock = some k) w w1 := Off.grown S1.out fun k hk => .inl (by injection hk with hk; exact hk.symm)
  have q2 : Off (fun k => (Value.slice A out.length c).ownBlock = some k) w1 w2 := Off.grown B2.out fun k hk => hk
  have q3 : w2.grownBy (w2.setCell ⟨g, 3, none⟩ (.slice A2 (out.length + s.length) c2)) (some g) := grown_set _ g 3 _
  exact (q1.trans q2 fun k hk => .inl (.inr hk)).trans (Off.grown (F := fun k => k = g) q3 fun k hk => by injection hk with hk; exact hk.symm) fun k hk => .inl (.inl hk)
/-- The reader's state turned in the reader's block and the text's row alone. -/
theorem RdrS.put {w w' : World} {base g : Nat} {l l' : List UInt8} {tk p bf p' bf' : Value} {E : List TokE} {text text' : List UInt8} (h : RdrS w base g l tk p bf E text) (hr : RdrAt w' g l' tk p' bf') (hp : p' = .pointer none ∨ p' = selfP g) (ho : Own w' base 5 bf' (bvs text'))
    (hf : Off (fun k => k = g ∨ bf.ownBlock = some k) w w') : RdrS w' base g l' tk p' bf' E text' := by
  obtain ⟨h1, h2, h3, h4, h5, h6, h7⟩ := h
  refine ⟨hr, hp, ho, ownsRow_blk h4 fun k hk => hf.2.2.2.2 k (World.ownsRow.lt h4 k hk).2 ?_, fun e he => ownsRow_blk (h5 e he) fun k hk => hf.2.2.2.2 k (World.ownsRow.lt (h5 e he) k hk).2 ?_, h6, Nat.le_trans h7 hf.2.2.2.1⟩
  · rintro (e1 | e1)
    · exact row_neB h4 h1 (by decide) k hk e1
    · exact row_ne h4 h3 (by decide) k hk e1
  · rintro (e1 | e1)
    · exact row_neB (h5 e he) h1 (by decide) k hk e1
    · exact row_ne (h5 e he) h3 (by decide) k hk e1
/-- The reader's state, when a call has turned but what is left. -/
theorem RdrS.step {w w' : World} {base g : Nat} {l l' : List UInt8} {tk p bf : Value} {E : List TokE} {text : List UInt8} (h : RdrS w base g l tk p bf E text) (hr : RdrAt w' g l' tk p bf) (hk : KeepsR g w w') : RdrS w' base g l' tk p bf E text :=
  h.put hr h.2.1 (ownsRow_blk h.2.2.1 fun k hq => hk.block k (World.ownsRow.lt h.2.2.1 k hq).2 (by
    intro e
    injection e with e
    have := (World.ownsRow.lt h.2.2.1 k hq).1
    have := h.2.2.2.2.2.1
    omega)) (Off.grown hk fun k hq => .inl (by injection hq with hq; exact hq.symm))
theorem Off.step {g : Nat} {w w' : World} (hk : KeepsR g w w') : Off (fun k => k = g) w w' := Off.grown hk fun k hq => by injection hq with hq; exact hq.symm
def TextAns (w : World) (base g : Nat) (l : List UInt8) (tk bf : Value) (E : List TokE) (text : List UInt8) (v : Value) (e : Ending) (w' : World) : Prop :=
  e = .returned v ∧ ∃ p' bf', RdrS w' base g l tk p' bf' E text ∧ Off (fun k => k = g ∨ bf.ownBlock = some k) w w'
theorem putText_any {w : World} {base g : Nat} {l : List UInt8} {tk p bf : Value} {E : List TokE} {text : List UInt8} (h : RdrS w base g l tk p bf E text) (s : List UInt8) (hl : text.length + s.length ≤ 140737488355328) :
    Calls Tryd.prog 37 #[selfP g, .string (str s)] w (TextAns w base g l tk bf E (text ++ s) (.tuple #[.int .i64 (s.length : Int), .nilIface])) := by
  refine (inWriteO_any h.1 h.2.1 h.2.2.1 h.2.2.2.2.2.1 h.2.2.2.2.2.2 s hl).mono ?_
  rintro e w' ⟨he, bf', h1, h2, h3⟩
  exact ⟨he, selfP g, bf', h.put h1 (.inr rfl) h2 h3, h3⟩
theorem count_all {w : World} {base g : Nat} {l : List UInt8} {tk p bf : Value} {E : List TokE} {text : List UInt8} (h : RdrS w base g l tk p bf E text) (hE : E.length ≤ 1000000) :
    Calls Tryd.prog 19 #[.pointer (some ⟨g, 0, none⟩)] w (Pure w (.int .i64 ((E ++ textTok text).length : Int))) := by
  obtain ⟨A, c, htk, _⟩ := ownsRow_shape h.2.2.2.1
  have h1 := h.1
  rw [htk] at h1
  refine (rdrCount_any h1 h.2.2.1 hE).mono ?_
  rintro e w' ⟨he, hw⟩
  refine ⟨he.trans ?_, hw⟩
  congr 2
  unfold textTok
  split <;> simp_all
end Go.Proofs.YtelhdkidnhfnbaaDoor

/-
  Whether attributes may be: at most 32, each by its name, no name twice. Condition: the slice's cells lie in memory.
-/
namespace Go.Proofs.YtelhdkidnhfnbaaDoor
open Go.RowKit
open Go.Maps (Keyed)

def okN : List (List UInt8) → List (List UInt8) → Bool
  | _, [] => true
  | had, n :: r => nameX n && !had.contains n && okN (had ++ [n]) r
def attrsOk (L : List (List UInt8 × List UInt8)) : Bool := decide (L.length ≤ 32) && okN [] (L.map (·.1))
/-- The names that were seen, as a map to how often: once. -/
def seenD (H : List (List UInt8)) : DataW Unit := H.foldl (fun D n => D.put (.string n) (.lit (.int .i64 1))) (.map [])
theorem seen_fold : ∀ (H : List (List UInt8)) (D : DataW Unit) (n : List UInt8) (z : DataW Unit), Maps.IsMap D →
    (H.foldl (fun D n => D.put (.string n) (.lit (.int .i64 1))) D).atKey (.string n) z = if H.contains n = true then .lit (.int .i64 1) else D.atKey (.string n) z
  | [], D, n, z, _ => by simp
  | x :: r, D, n, z, hD => by
    rw [List.foldl_cons, seen_fold r _ n z (hD.put _ _)]
    by_cases h : n = x
    · subst h
      rw [Maps.atKey_put_same hD (show WideAt.IsKeyLit (.string n) from trivial)]
      simp
    · rw [Maps.atKey_put_other (fun e => h (by injection e))]
      have : (x :: r).contains n = r.contains n := by simp [h]
      rw [this]
theorem seen_at (H : List (List UInt8)) (n : List UInt8) : (seenD H).atKey (.string n) (.lit (.int .i64 0)) = .lit (.int .i64 (if H.contains n = true then 1 else 0)) := by
  unfold seenD
  rw [seen_fold H _ n _ Maps.isMap_empty]
  split <;> rfl
theorem seen_push (H : List (List UInt8)) (n : List UInt8) : seenD (H ++ [n]) = (seenD H).put (.string n) (.lit (.int .i64 1)) := by
  unfold seenD
  rw [List.foldl_append]; rfl
theorem Tryd.keyed : Keyed Tryd.prog 9 := Maps.string_keyed Tryd.underlying9
theorem keyName (n : List UInt8) (h : n.length ≤ maxLen) : keyOf Tryd.prog 9 (.string (str n)) = some (.string n) := by
  have e := Go.WideMaps.keyOf_string_mk Tryd.underlying9 (s := str n) (by rw [str_size]; exact h)
  rw [e]
  simp [str]
theorem zeroE (w : World) : (zeroValue 3).run Tryd.prog w = .ok (.int .i64 0) w := by kernel_rfl
def SeenAt (w : World) (b n : Nat) (H : List (List UInt8)) : Prop := w.ownsMap Tryd.prog 9 (plainElem (H := Unit) Tryd.prog 3) b n (seenD H)
set_option maxRecDepth 100000 in
theorem SeenAt.look {w : World} {b k : Nat} {H : List (List UInt8)} (h : SeenAt w b k H) (n : List UInt8) (hn : n.length ≤ maxLen) :
    (Instr.lookup 89 (.map (some b)) (.string (str n)) false).run Tryd.prog w = .ok (.int .i64 (if H.contains n = true then 1 else 0)) w := by
  obtain ⟨c, hrun, hat, _⟩ := World.ownsMap.lookup_int h Tryd.keyed Tryd.underlying89 Tryd.underlying3 (zeroE _) (keyName n hn)
  rw [seen_at] at hat
  injection hat with hat
  injection hat with _ hat
  rw [hrun, hat]
theorem SeenAt.made (w : World) : SeenAt (w.alloc (.map #[] 0)) w.heap.size 0 [] := World.ownsMap_made w _ _ _
theorem SeenAt.below {w w' : World} {b n : Nat} {H : List (List UInt8)} (h : SeenAt w b n H) (hb : Below w.heap.size w w') : SeenAt w' b n H :=
  World.ownsMap.kept (row := none) h ⟨hb.os, hb.tape, hb.output, hb.size, fun k hk _ => hb.block k hk⟩ (by simp)
theorem acells_at : ∀ (L : List (List UInt8 × List UInt8)) (k : Nat) (hk : k < L.length), (acells L)[2 * k]? = some (.string (str L[k].1)) ∧ (acells L)[2 * k + 1]? = some (.string (str L[k].2))
  | a :: r, 0, _ => ⟨rfl, rfl⟩
  | a :: r, k + 1, hk => by
    have h := acells_at r k (by simpa using hk)
    have e1 : 2 * (k + 1) = 2 * k + 1 + 1 := by omega
    rw [e1]
    exact h
theorem okN_step (names : List (List UInt8)) (k : Nat) (hk : k < names.length) : okN (names.take k) (names.drop k) = (nameX names[k] && !(names.take k).contains names[k] && okN (names.take (k + 1)) (names.drop (k + 1))) := by
  rw [List.drop_eq_getElem_cons hk, okN, List.take_succ_eq_append_getElem hk]
def MayRel (L : List (List UInt8 × List UInt8)) (w : World) (u : Value) (W : World) : Prop :=
  ∃ k : Nat, k ≤ L.length ∧ u = .int .i64 (k : Int) ∧ okN ((L.map (·.1)).take k) ((L.map (·.1)).drop k) = okN [] (L.map (·.1)) ∧ SeenAt W w.heap.size k ((L.map (·.1)).take k) ∧ Below w.heap.size w W
theorem SeenAt.grown {w w' : World} {b n q : Nat} {H : List (List UInt8)} (h : SeenAt w b n H) (hg : w.grownBy w' (some q)) (hq : b ≠ q) : SeenAt w' b n H :=
  World.ownsMap.kept h hg (by intro e; injection e with e; exact hq e)
theorem SeenAt.lt {w : World} {b n : Nat} {H : List (List UInt8)} (h : SeenAt w b n H) : b < w.heap.size := World.ownsMap.lt h
theorem below_more {w a b : World} {q : Nat} (h : Below w.heap.size w a) (g : a.grownBy b (some q)) (hq : w.heap.size ≤ q) : Below w.heap.size w b :=
  ⟨g.os.trans h.os, g.tape.trans h.tape, g.output.trans h.output, Nat.le_trans h.size g.size, fun k hk => (g.block k (Nat.lt_of_lt_of_le hk h.size) (by intro e; injection e with e; omega)).trans (h.block k hk)⟩
theorem below_then {w a b : World} (h : Below w.heap.size w a) (g : Below a.heap.size a b) : Below w.heap.size w b :=
  ⟨g.os.trans h.os, g.tape.trans h.tape, g.output.trans h.output, Nat.le_trans h.size g.size, fun k hk => (g.block k (Nat.lt_of_lt_of_le hk h.size)).trans (h.block k hk)⟩
/-- A slice of attributes, its cells in memory. -/
def SrcA (w : World) (v : Value) (L : List (List UInt8 × List UInt8)) : Prop :=
  ∃ A c, v = .slice A L.length c ∧ (0 < L.length → ∃ b o, A = some ⟨b, o, none⟩ ∧ b < w.heap.size ∧ ∀ j u, (acells L)[j]? = some u → w.cell? ⟨b, o + j, none⟩ = some u)
def LensOk (L : List (List UInt8 × List UInt8)) : Prop := ∀ a ∈ L, a.1.length ≤ 1000000
set_option maxHeartbeats 3200000 in
set_option maxRecDepth 100000 in
theorem attrsMay_any {w : World} {v : Value} {L : List (List UInt8 × List UInt8)} (h : SrcA w v L) (hl : LensOk L) : Calls Tryd.prog 51 #[v] w (Made w (.bool (attrsOk L))) := by
  obtain ⟨A, c, rfl, hA⟩ := h
  by_cases h32 : (32 : Int) < (L.length : Int)
  · have HV : Hid (attrsOk L = false) := Lib.hid (by unfold attrsOk; rw [decide_eq_false (by omega)]; rfl)
    clear hA hl
    go_enter Tryd.func51, Tryd.ntmps51
    go_wp2_with fail
    go_ret
    exact ⟨by rw [HV.out]; rfl, Below.refl _ _⟩
  · have hd32 : decide ((32 : Int) < (L.length : Int)) = false := decide_eq_false h32
    have hl32 : Hid (L.length ≤ 32) := Lib.hid (by omega)
    have HV : Hid (attrsOk L = okN [] (L.map (·.1))) := Lib.hid (by unfold attrsOk; rw [decide_eq_true (by omega)]; rfl)
    have HA := Lib.hid hA
    have HLN := Lib.hid hl
    have hmm := @run_makeMap Tryd.prog
    clear hA hl h32
    go_enter Tryd.func51, Tryd.ntmps51
    go_wp2_with fail
    clear hmm
    go_loopw [12] (MayRel L w) (fun u _ => L.length - (intOf u).toNat)
    case atStart => exact ⟨0, Nat.zero_le _, rfl, rfl, SeenAt.made _, (Below.refl _ _).alloc (Nat.le_refl _) _⟩
    case round =>
      obtain ⟨k, hk, rfl, hok, hse, hbw⟩ := hrel
      have HSE := Lib.hid hse
      have HBW := Lib.hid hbw
      clear hse hbw
      by_cases hkl : k < L.length
      · have hkI : (k : Int) < (L.length : Int) := by omega
        obtain ⟨b, o, rfl, hbl, hc⟩ := HA.out (by omega)
        have x0 : wr.cell? ⟨b, o + k * 2, none⟩ = some (.string (str L[k].1)) := (HBW.out.cell (p := ⟨b, o + k * 2, none⟩) hbl).trans (by rw [Nat.mul_comm]; exact hc _ _ (acells_at L k hkl).1)
        have x1 : wr.cell? ⟨b, o + k * 2 + 1, none⟩ = some (.string (str L[k].2)) := (HBW.out.cell (p := ⟨b, o + k * 2 + 1, none⟩) hbl).trans (by rw [Nat.mul_comm, Nat.add_assoc]; exact hc _ _ (acells_at L k hkl).2)
        have hkm : k < (L.map (·.1)).length := by rw [List.length_map]; exact hkl
        have hst := okN_step (L.map (·.1)) k hkm
        rw [hok] at hst
        have hnk : (L.map (·.1))[k] = L[k].1 := by rw [List.getElem_map]
        have htk := List.take_succ_eq_append_getElem hkm
        rw [hnk] at hst htk
        have HLK := Lib.hid (HLN.out L[k] (List.getElem_mem hkl))
        generalize L[k] = x at *
        have kn := fun W => xname_any x.1 W
        have BF : Hid (Blk (wr.alloc (.cells #[.string (str x.1), .string (str x.2)] 39)) wr.heap.size 39 #[.string (str x.1), .string (str x.2)]) := Lib.hid (Blk.fresh _ _ _)
        have HTK := Lib.hid htk
        have HBA : Hid (Below w.heap.size w (wr.alloc (.cells #[.string (str x.1), .string (str x.2)] 39))) := Lib.hid (below_then HBW.out ((Below.refl _ _).alloc (Nat.le_refl _) _))
        have HSA : Hid (SeenAt (wr.alloc (.cells #[.string (str x.1), .string (str x.2)] 39)) w.heap.size k ((L.map (·.1)).take k)) := Lib.hid (World.ownsMap.alloc HSE.out _)
        clear hc hnk htk hok
        cases hn : nameX x.1 with
        | false =>
          rw [hn] at hst kn
          have HST := Lib.hid hst
          have KN := Lib.hid kn
          clear hst kn hn
          go_wp2_with (first
            | (go_at_call 15; refine (KN.out _).mono ?_; rintro e w5 ⟨rfl, hb5⟩; have HB5 := Lib.hid hb5; clear hb5))
          go_ret
          exact ⟨by rw [HV.out, HST.out]; rfl, below_then HBA.out HB5.out⟩
        | true =>
          rw [hn] at hst kn
          have KN := Lib.hid kn
          have HKEY : Hid (keyOf Tryd.prog 9 (.string (str x.1)) = some (.string x.1)) := Lib.hid (keyName x.1 (by have := HLK.out; unfold maxLen; omega))
          cases hcn : ((L.map (·.1)).take k).contains x.1 with
          | true =>
            rw [hcn] at hst
            have HST := Lib.hid hst
            have HCN := Lib.hid hcn
            clear hst kn hn hcn
            go_wp2_with (first
              | (go_at_call 15; refine (KN.out _).mono ?_; rintro e w5 ⟨rfl, hb5⟩; have z0 : w5.cell? ⟨wr.heap.size, 0, none⟩ = some (.string (str x.1)) := (hb5.cell (p := ⟨wr.heap.size, 0, none⟩) BF.out.lt).trans (BF.out.cell 0); have HS5 := Lib.hid (HSA.out.below hb5); have hlk : (Instr.lookup 89 (.map (some w.heap.size)) (.string (str x.1)) false).run Tryd.prog w5 = .ok (.int .i64 1) w5 := by { have q := HS5.out.look x.1 (by have := HLK.out; unfold maxLen; omega); rw [HCN.out] at q; exact q }; have HB5 := Lib.hid hb5; clear hb5))
            go_ret
            exact ⟨by rw [HV.out, HST.out]; rfl, below_then HBA.out HB5.out⟩
          | false =>
            rw [hcn] at hst
            have HST := Lib.hid hst
            have HCN := Lib.hid hcn
            clear hst kn hn hcn
            have hlI : (L.length : Int) ≤ 32 := by have := hl32.out; omega
            go_wp2_with (first
              | (go_at_call 15; refine (KN.out _).mono ?_; rintro e w5 ⟨rfl, hb5⟩; have z0 : w5.cell? ⟨wr.heap.size, 0, none⟩ = some (.string (str x.1)) := (hb5.cell (p := ⟨wr.heap.size, 0, none⟩) BF.out.lt).trans (BF.out.cell 0); have HS5 := Lib.hid (HSA.out.below hb5); have hlk : (Instr.lookup 89 (.map (some w.heap.size)) (.string (str x.1)) false).run Tryd.prog w5 = .ok (.int .i64 0) w5 := by { have q := HS5.out.look x.1 (by have := HLK.out; unfold maxLen; omega); rw [HCN.out] at q; exact q }; have HB5 := Lib.hid hb5; clear hb5)
              | (at_mapUpdate; have hs5 := HS5.out; unfold SeenAt at hs5; (refine wpList_mapUpdate_own w5 rfl _ _ _ 89 rfl 9 3 Tryd.keyed Tryd.underlying89 (plainElem (H := Unit) Tryd.prog 3) w.heap.size k _ rfl hs5 (by have := hl32.out; unfold maxLen; omega) _ _ _ rfl rfl HKEY.out _ [] (plainElem_int Tryd.underlying3 (a := 1) (by decide)) ?_); clear hs5; intro w6 hown6 hg6; have HO6 : Hid (SeenAt w6 w.heap.size (k + 1) ((L.map fun z => z.1).take (k + 1))) := Lib.hid (by unfold SeenAt; rw [HTK.out, seen_push]; exact hown6); have HG6 := Lib.hid hg6; clear hown6 hg6))
            go_roundw
            case rel => exact ⟨k + 1, hkl, by go_num, by rw [HST.out]; rfl, HO6.out, below_more (below_then HBA.out HB5.out) HG6.out (Nat.le_refl _)⟩
            case measure => simp [intOf]; omega
      · have hkI : ¬ (k : Int) < (L.length : Int) := by omega
        rw [List.drop_eq_nil_of_le (by rw [List.length_map]; omega)] at hok
        have HOK := Lib.hid hok
        clear hok
        go_wp2_with fail
        go_ret
        exact ⟨by rw [HV.out, ← HOK.out]; rfl, HBW.out⟩
end Go.Proofs.YtelhdkidnhfnbaaDoor
