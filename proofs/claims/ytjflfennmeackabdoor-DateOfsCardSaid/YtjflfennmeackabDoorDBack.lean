/-
  What is shown is read, in plain words. No condition.
-/
import Derived.Test.YtjflfennmeackabDoorDWebM
import Derived.Test.YtjflfennmeackabDoorDRef
namespace Go.Proofs.YtjflfennmeackabDoor

theorem allDig_snoc {l : List UInt8} {x : UInt8} (hl : AllDig l) (hx : 48 ≤ x.toNat ∧ x.toNat ≤ 57) : AllDig (l ++ [x]) := by
  intro i hi
  by_cases h : i < l.length
  · rw [List.getElem_append_left h]
    exact hl i h
  · rw [List.getElem_append_right (by omega)]
    simp only [List.length_append, List.length_singleton] at hi
    simp only [show i - l.length = 0 by omega, List.getElem_cons_zero]
    exact hx
theorem digit_nat (a : Nat) (h : a < 10) : (UInt8.ofNat (48 + a)).toNat = 48 + a := by
  rw [UInt8.toNat_ofNat']
  omega
theorem padN_dig : ∀ k n, AllDig (padN k n)
  | 0, _ => fun i h => absurd h (by simp [padN])
  | k + 1, n => by
    have hd := digit_nat (n % 10) (by omega)
    exact allDig_snoc (padN_dig k (n / 10)) (by rw [hd]; omega)
theorem valN_padN : ∀ k n, valN (padN k n) = n % 10 ^ k
  | 0, n => by rw [Nat.pow_zero, Nat.mod_one]; rfl
  | k + 1, n => by
    show valN (padN k (n / 10) ++ [UInt8.ofNat (48 + n % 10)]) = _
    rw [valN_snoc, valN_padN k (n / 10), digit_nat (n % 10) (by omega), show 10 ^ (k + 1) = 10 * 10 ^ k by rw [Nat.pow_succ, Nat.mul_comm], Nat.mod_mul]
    omega
theorem lead_all (p : Nat → Bool) : ∀ (l r : List UInt8), (∀ i (h : i < l.length), p l[i].toNat = true) → lead p l.length (l ++ r) = l.length
  | [], r, _ => by cases r <;> rfl
  | x :: l, r, h => by
    have hx : p x.toNat = true := h 0 (by simp)
    show (if p x.toNat = true then lead p l.length (l ++ r) + 1 else 0) = l.length + 1
    rw [if_pos hx, lead_all p l r (fun i hi => h (i + 1) (by simpa using hi))]

theorem numS_pad (k n : Nat) (r : List UInt8) (b : Bool) (hn : n < 10 ^ k) : numS k ((padN k n ++ r, b) : St) = (n, (r, b)) := by
  have hl : lead digB k (padN k n ++ r) = k := by
    have := lead_all digB (padN k n) r (fun i h => (dig_iff _).2 (padN_dig k n i h))
    rw [padN_len] at this
    exact this
  unfold numS runT runL runB
  simp only [hl, Nat.lt_irrefl, if_false]
  rw [List.take_left' (padN_len k n), List.drop_left' (padN_len k n), valN_padN, Nat.mod_eq_of_lt hn]
theorem mustS_is (x : UInt8) (r : List UInt8) (b : Bool) : mustS x.toNat ((x :: r, b) : St) = (r, b) := by
  simp [mustS, hasB, hasS]

theorem web_show (y m d h mi s : Nat) (n : Int) (hv : validD y m d) (hc : clockD h mi s) (hm : momN y m d h mi s = n) : webS (showL y m d h mi s) = some n := by
  have hdb := dim_bd y m
  obtain ⟨hy1, hy2, hm1, hm2, hd1, hd2⟩ := id hv
  obtain ⟨hh1, hh2, hi1, hi2, hs1, hs2⟩ := id hc
  have hr := mom_range hv hc
  have e : showL y m d h mi s = padN 4 y ++ (45 :: (padN 2 m ++ (45 :: (padN 2 d ++ (84 :: (padN 2 h ++ (58 :: (padN 2 mi ++ (58 :: (padN 2 s ++ [90])))))))))) := by
    unfold showL
    simp only [List.append_assoc, List.cons_append, List.nil_append]
  have m45 : ∀ (r : List UInt8) (b : Bool), mustS 45 ((45 :: r, b) : St) = (r, b) := mustS_is 45
  have m84 : ∀ (r : List UInt8) (b : Bool), mustS 84 ((84 :: r, b) : St) = (r, b) := mustS_is 84
  have m58 : ∀ (r : List UInt8) (b : Bool), mustS 58 ((58 :: r, b) : St) = (r, b) := mustS_is 58
  have a116 : ∀ (r : List UInt8) (b : Bool), hasB 116 ((84 :: r, b) : St) = false := fun _ _ => rfl
  have b116 : ∀ (r : List UInt8) (b : Bool), hasS 116 ((84 :: r, b) : St) = (84 :: r, b) := fun _ _ => rfl
  have a46 : ∀ (r : List UInt8) (b : Bool), hasB 46 ((90 :: r, b) : St) = false := fun _ _ => rfl
  have b46 : ∀ (r : List UInt8) (b : Bool), hasS 46 ((90 :: r, b) : St) = (90 :: r, b) := fun _ _ => rfl
  have z : ∀ b : Bool, webZoneS (([90], b) : St) = (0, ([], b)) := fun _ => rfl
  have ny := fun r b => numS_pad 4 y r b (by omega)
  have nm := fun r b => numS_pad 2 m r b (by omega)
  have nd := fun r b => numS_pad 2 d r b (by omega)
  have nh := fun r b => numS_pad 2 h r b (by omega)
  have ni := fun r b => numS_pad 2 mi r b (by omega)
  have ns := fun r b => numS_pad 2 s r b (by omega)
  unfold webS clockS
  rw [e]
  simp only [ny, m45, nm, nd, a116, b116, Bool.false_eq_true, if_false, m84, nh, m58, ni, ns, a46, b46, z]
  unfold momS
  rw [hm, Int.sub_zero]
  rw [hm] at hr
  rw [if_pos ⟨valid_okD hv hc, rfl, (may_iff n).2 hr⟩]
end Go.Proofs.YtjflfennmeackabDoor
