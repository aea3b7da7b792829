/-
  XmlWrites's call: it answers true. Conditions: the table of signs is as the program's text lays it; the library's MaxLen is a number; the tokens' cells lie in memory.
-/
import Derived.Test.YtelhdkidnhfnbaaDoorMgm
import Derived.Test.YtelhdkidnhfnbaaDoorMgr
namespace Go.Proofs.YtelhdkidnhfnbaaDoor
open Go.RowKit

theorem sm_len {e : TokE} (h : SmE e) : LenT e :=
  ⟨Nat.le_trans h.2.2.1 (by decide), Nat.le_trans h.2.1 (by decide), fun a ha => ⟨Nat.le_trans (h.2.2.2 a ha).2 (by decide), Nat.le_trans (h.2.2.2 a ha).1 (by decide)⟩⟩
theorem sm_okn {e : TokE} (h : SmE e) : OkN e :=
  ⟨Nat.le_trans h.1 (by decide), Nat.le_trans h.2.2.1 (by decide), fun a ha => Nat.le_trans (h.2.2.2 a ha).2 (by decide)⟩
theorem attrsW_sm : ∀ L : AttrL, (∀ a ∈ L, a.2.length ≤ 1000 ∧ a.1.length ≤ 300) → (attrsW L).length ≤ 6304 * L.length
  | [], _ => Nat.le_refl _
  | a :: r, h => by
    have h1 := h a List.mem_cons_self
    have h2 := attrsW_sm r fun x hx => h x (List.mem_cons_of_mem _ hx)
    have h3 := (writeR_len a.2).2
    show (attrW a ++ attrsW r).length ≤ _
    unfold attrW
    simp only [List.length_append, List.length_cons, List.length_nil]
    omega
theorem writeK_sm {e : TokE} (h : SmE e) : (writeK e.tk).length ≤ 400000 := by
  obtain ⟨k, n, L, v, x⟩ := e
  obtain ⟨h1, h2, h3, h4⟩ := h
  have h5 := attrsW_sm L h4
  have h6 := (writeR_len x).2
  simp only at h1 h2 h3
  unfold writeK
  show (if k = 1 then _ else _ : List UInt8).length ≤ _
  split
  · show (60 :: (n ++ (attrsW L ++ [62]))).length ≤ _
    simp only [List.length_cons, List.length_append, List.length_nil]
    omega
  · split
    · show (60 :: 47 :: (n ++ [62])).length ≤ _
      simp only [List.length_cons, List.length_append, List.length_nil]
      omega
    · split
      · show (writeR x).length ≤ _
        omega
      · exact Nat.zero_le _
theorem allW_sm : ∀ G : List TokE, (∀ e ∈ G, SmE e) → (allW (G.map TokE.tk)).length ≤ 400000 * G.length
  | [], _ => Nat.le_refl _
  | e :: r, h => by
    have h1 := writeK_sm (h e List.mem_cons_self)
    have h2 := allW_sm r fun x hx => h x (List.mem_cons_of_mem _ hx)
    show (writeK e.tk ++ allW (r.map TokE.tk)).length ≤ _
    rw [List.length_append, List.length_cons]
    omega
set_option maxHeartbeats 6400000 in
set_option maxRecDepth 100000 in
theorem lwri_any (v : Value) (w : World) (h1 : RdT w v) (hS : Sig w) (hm : MaxAt w) : Calls Tryd.prog 4 #[v] w (Made w (.bool true)) := by
  have HS := Lib.hid hS
  have HM := Lib.hid hm
  obtain ⟨G, s1, _, _⟩ := h1
  have HT := Lib.hid s1
  clear hS hm s1
  have HGS : Hid (∀ m, Sig (w.drewN m) ∧ MaxAt (w.drewN m) ∧ SrcT (w.drewN m) v G ∧ Below w.heap.size w (w.drewN m)) := Lib.hid fun m =>
    ⟨HS.out.below (below_drewN (Below.refl _ _) m), HM.out.below (below_drewN (Below.refl _ _) m), HT.out.below (below_drewN (Below.refl _ _) m), below_drewN (Below.refl _ _) m⟩
  cases hmay : mayA 0 (G.map TokE.tk) with
  | false =>
    have HMY := Lib.hid hmay
    have HWF := Lib.hid (wriF_no _ _ [] hmay)
    clear hmay
    go_enter Tryd.func4, Tryd.ntmps4
    go_wp2_with (first
      | (go_at_call 11; refine (large_any HT.out).mono ?_; rintro e w1 ⟨b1, rfl, sm1, m1, rfl⟩; have SM1 := Lib.hid sm1; clear sm1; have X1 := Lib.hid (HGS.out m1); cases b1))
    · go_wp2_with (first
        | (go_at_call 13; have k := rmayall_any (HT.out.below B3.out) (sm_small (SM1.out trivial)).1 (fun e he => sm_okn ((SM1.out trivial).2 e he)); rw [HMY.out] at k; refine k.mono ?_; rintro e w4 ⟨rfl, b⟩; have B4 := Lib.hid (below_then B3.out b); clear b k)
        | (go_at_call 7; refine (lives_any _ (HS.out.below B2.out) (HM.out.below B2.out)).mono ?_; rintro e w3 ⟨rfl, b⟩; have B3 := Lib.hid (below_then B2.out b); clear b)
        | (go_at_call 12; have k := xwrite_any X1.out.2.2.1 (Nat.le_trans (SM1.out trivial).1 (by decide)) (fun e he => sm_len ((SM1.out trivial).2 e he)) X1.out.1; unfold XWAns at k; rw [HWF.out] at k; refine k.mono ?_; rintro e w2 ⟨rfl, b⟩; have B2 := Lib.hid (below_then X1.out.2.2.2 b); clear b k))
      go_ret
      exact ⟨rfl, B4.out⟩
    · go_wp2_with (go_at_call 7; refine (lives_any _ X1.out.1 X1.out.2.1).mono ?_; rintro e w3 ⟨rfl, b3⟩; have B3 := Lib.hid (below_then X1.out.2.2.2 b3); clear b3)
      go_ret
      exact ⟨rfl, B3.out⟩
  | true =>
    have HMY := Lib.hid hmay
    have HWF := Lib.hid (wriF_yes _ _ [] hmay)
    have HBK := Lib.hid (write_back hmay)
    obtain ⟨s, hs⟩ : ∃ s, s = allW (G.map TokE.tk) := ⟨_, rfl⟩
    rw [List.nil_append, ← hs] at HWF
    rw [← hs] at HBK
    have HSW := Lib.hid hs
    clear hmay hs
    have KR : Hid (∀ W, SrcT W v G → G.length ≤ 400 → (∀ e ∈ G, LenT e) → Calls Tryd.prog 14 #[v] W (Made W (.string (str s)))) := Lib.hid fun W h1 h2 h3 => by
      have h := rwriteT_any h1 h2 h3 HMY.out
      rw [← HSW.out] at h
      exact h
    by_cases hlong : (65536 : Int) < (s.length : Int)
    · go_enter Tryd.func4, Tryd.ntmps4
      go_wp2_with (first
        | (go_at_call 11; refine (large_any HT.out).mono ?_; rintro e w1 ⟨b1, rfl, sm1, m1, rfl⟩; have SM1 := Lib.hid sm1; clear sm1; have X1 := Lib.hid (HGS.out m1); cases b1))
      · obtain ⟨⟨TQ, nq, eq⟩, hxq⟩ : ∃ x, x = tokX s := ⟨_, rfl⟩
        have HXQ := Lib.hid hxq
        have HSL : Hid (s.length ≤ 1000000000) := Lib.hid (by have h := allW_sm G (SM1.out trivial).2; rw [← HSW.out] at h; have := (SM1.out trivial).1; omega)
        clear hxq
        go_wp2_with (first
          | (go_at_call 8; have k := tokens_any s w5 HSL.out (HS.out.below B5.out) (HM.out.below B5.out); unfold ToksAns at k; rw [← HXQ.out] at k; refine k.mono ?_; rintro e w6 ⟨v6, G6, rfl, b, g, r⟩; have B6 := Lib.hid (below_then B5.out b); clear b g r k)
          | (go_at_call 14; refine (KR.out w4 (HT.out.below B4.out) (Nat.le_trans (SM1.out trivial).1 (by decide)) (fun e he => sm_len ((SM1.out trivial).2 e he))).mono ?_; rintro e w5 ⟨rfl, b⟩; have B5 := Lib.hid (below_then B4.out b); clear b)
          | (go_at_call 13; have k := rmayall_any (HT.out.below B3.out) (sm_small (SM1.out trivial)).1 (fun e he => sm_okn ((SM1.out trivial).2 e he)); rw [HMY.out] at k; refine k.mono ?_; rintro e w4 ⟨rfl, b⟩; have B4 := Lib.hid (below_then B3.out b); clear b k)
          | (go_at_call 7; refine (lives_any _ (HS.out.below B2.out) (HM.out.below B2.out)).mono ?_; rintro e w3 ⟨rfl, b⟩; have B3 := Lib.hid (below_then B2.out b); clear b)
          | (go_at_call 12; have k := xwrite_any X1.out.2.2.1 (Nat.le_trans (SM1.out trivial).1 (by decide)) (fun e he => sm_len ((SM1.out trivial).2 e he)) X1.out.1; unfold XWAns at k; rw [HWF.out] at k; refine k.mono ?_; rintro e w2 ⟨rfl, b⟩; have B2 := Lib.hid (below_then X1.out.2.2.2 b); clear b k))
        go_ret
        exact ⟨rfl, B6.out⟩
      · go_wp2_with (go_at_call 7; refine (lives_any _ X1.out.1 X1.out.2.1).mono ?_; rintro e w3 ⟨rfl, b3⟩; have B3 := Lib.hid (below_then X1.out.2.2.2 b3); clear b3)
        go_ret
        exact ⟨rfl, B3.out⟩
    · have hl' : decide ((65536 : Int) < (s.length : Int)) = false := decide_eq_false hlong
      have HSL : Hid (s.length ≤ 65536) := Lib.hid (by omega)
      clear hlong
      go_enter Tryd.func4, Tryd.ntmps4
      go_wp2_with (first
        | (go_at_call 11; refine (large_any HT.out).mono ?_; rintro e w1 ⟨b1, rfl, sm1, m1, rfl⟩; have SM1 := Lib.hid sm1; clear sm1; have X1 := Lib.hid (HGS.out m1); cases b1))
      · have HXQ : Hid ((G.map TokE.tk, s.length, (0 : Int)) = tokX s) := Lib.hid (HBK.out (by rw [List.length_map]; exact Nat.le_trans (SM1.out trivial).1 (by decide)) HSL.out).symm
        go_wp2_with (first
          | (go_at_call 10; have ks := rsame_any (srcT_row R6.out) (HT.out.below B6.out) (small_of (T := G.map TokE.tk) ⟨by rw [List.length_map]; exact (sm_small (SM1.out trivial)).1, fun t ht => by obtain ⟨e, he, rfl⟩ := List.mem_map.1 ht; exact (sm_small (SM1.out trivial)).2 e he⟩ HG6.out).1 (small_of (T := G.map TokE.tk) ⟨by rw [List.length_map]; exact (sm_small (SM1.out trivial)).1, fun t ht => by obtain ⟨e, he, rfl⟩ := List.mem_map.1 ht; exact (sm_small (SM1.out trivial)).2 e he⟩ HG6.out).2; rw [HG6.out, decide_eq_true rfl] at ks; refine ks.mono ?_; rintro e w7 ⟨rfl, q7, rfl⟩; have B7 := Lib.hid (below_drewN B6.out q7); clear ks)
          | (go_at_call 8; have k := tokens_any s w5 (Nat.le_trans HSL.out (by decide)) (HS.out.below B5.out) (HM.out.below B5.out); unfold ToksAns at k; rw [← HXQ.out] at k; refine k.mono ?_; rintro e w6 ⟨v6, G6, rfl, b, g, r⟩; have B6 := Lib.hid (below_then B5.out b); have R6 := Lib.hid r; have HG6 := Lib.hid g; clear b g r k)
          | (go_at_call 14; refine (KR.out w4 (HT.out.below B4.out) (Nat.le_trans (SM1.out trivial).1 (by decide)) (fun e he => sm_len ((SM1.out trivial).2 e he))).mono ?_; rintro e w5 ⟨rfl, b⟩; have B5 := Lib.hid (below_then B4.out b); clear b)
          | (go_at_call 13; have k := rmayall_any (HT.out.below B3.out) (sm_small (SM1.out trivial)).1 (fun e he => sm_okn ((SM1.out trivial).2 e he)); rw [HMY.out] at k; refine k.mono ?_; rintro e w4 ⟨rfl, b⟩; have B4 := Lib.hid (below_then B3.out b); clear b k)
          | (go_at_call 7; refine (lives_any _ (HS.out.below B2.out) (HM.out.below B2.out)).mono ?_; rintro e w3 ⟨rfl, b⟩; have B3 := Lib.hid (below_then B2.out b); clear b)
          | (go_at_call 12; have k := xwrite_any X1.out.2.2.1 (Nat.le_trans (SM1.out trivial).1 (by decide)) (fun e he => sm_len ((SM1.out trivial).2 e he)) X1.out.1; unfold XWAns at k; rw [HWF.out] at k; refine k.mono ?_; rintro e w2 ⟨rfl, b⟩; have B2 := Lib.hid (below_then X1.out.2.2.2 b); clear b k))
        go_ret
        exact ⟨rfl, B7.out⟩
      · go_wp2_with (go_at_call 7; refine (lives_any _ X1.out.1 X1.out.2.1).mono ?_; rintro e w3 ⟨rfl, b3⟩; have B3 := Lib.hid (below_then X1.out.2.2.2 b3); clear b3)
        go_ret
        exact ⟨rfl, B3.out⟩
end Go.Proofs.YtelhdkidnhfnbaaDoor
