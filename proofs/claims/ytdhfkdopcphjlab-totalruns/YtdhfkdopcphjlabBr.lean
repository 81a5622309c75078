/-
  The contract of the document's Exact. Conditions: at most 65536 floats, each of 64 bits, which stand apart from what is written.
-/
import Derived.Test.YtdhfkdopcphjlabBq
namespace Go.Proofs.Ytdhfkdopcphjlab
open Go.RowKit
/-- What stands after k floats, none of which is none. -/
structure RxAt (bs : List Nat) (k : Nat) (up dn al : Bool) (f : Nat → Int) : Prop where
  n : (exF (bs.take k)).n = false
  a : up = (exF (bs.take k)).a
  l : dn = (exF (bs.take k)).l
  o : al = (decide (0 < bs.length) && !(exF (bs.take k)).o)
  val : bigV f 280 = exZ (bs.take k) * ((2 ^ 52 : Nat) : Int)
  near : ∀ j, -((k : Int) * 65536) ≤ f j ∧ f j ≤ (k : Int) * 65536
theorem bigV_zero : ∀ n, bigV (fun _ => 0) n = 0
  | 0 => rfl
  | n + 1 => by show bigV _ n + 0 * _ = 0; rw [bigV_zero n]; simp
theorem RxAt.start (bs : List Nat) : RxAt bs 0 false false (decide (0 < bs.length)) fun _ => 0 :=
  ⟨rfl, rfl, rfl, by show _ = (_ && !false); simp, by rw [bigV_zero]; show 0 = (0 : Int) * _; rw [Int.zero_mul], fun j => by simp⟩
theorem RxAt.inf {bs : List Nat} {k : Nat} {up dn al : Bool} {f : Nat → Int} (h : RxAt bs k up dn al f) (hb : ∀ b ∈ bs, b < 18446744073709551616) (hk : k < bs.length) (hn : nan64 (bs.getD k 0) = false) (hi : infB (bs.getD k 0) = true) (s : Bool) (hs : sgB (bs.getD k 0) = s) : RxAt bs (k + 1) (up || !s) (dn || s) false f := by
  have hb' := getD_lt hb k hk
  have hz : nulB (bs.getD k 0) = false := by
    have := of_decide_eq_true hi
    exact decide_eq_false (by omega)
  obtain ⟨k4, k3, k0⟩ := el_kind hb'
  obtain ⟨a1, a2, a3, a4, a5, a6⟩ := h
  have e1 := (congrArg exF (take_snoc bs k hk)).trans ((exF_snoc _ _).trans (add_one _ hb'))
  rw [hn, hi, hz, hs] at e1
  have e2 : exZ (bs.take (k + 1)) = exZ (bs.take k) := by
    rw [take_snoc bs k hk, exZ_snoc]
    unfold prod pIn
    rw [k3, hi]
    simp
  refine ⟨by rw [e1]; simp [a1], by rw [e1]; simp [a2], by rw [e1]; simp [a3], by rw [e1]; simp, by rw [e2]; exact a5, fun j => ?_⟩
  have := a6 j
  push_cast
  omega
theorem RxAt.fin {bs : List Nat} {k : Nat} {up dn al : Bool} {f : Nat → Int} (h : RxAt bs k up dn al f) (hb : ∀ b ∈ bs, b < 18446744073709551616) (hk : k < bs.length) (hl : bs.length ≤ 65536) (hn : nan64 (bs.getD k 0) = false) (hi : infB (bs.getD k 0) = false) : ∃ g, (∀ w, Calls Try.prog 60 #[.agg (rowB f), .int .u64 ((pmB (bs.getD k 0) : Nat) : Int), .int .i64 (peB (bs.getD k 0)), .bool (sgB (bs.getD k 0))] w fun e w' => e = .returned (.agg (rowB g)) ∧ Below w.heap.size w w') ∧ RxAt bs (k + 1) up dn (al && (nulB (bs.getD k 0) && sgB (bs.getD k 0))) g := by
  have hb' := getD_lt hb k hk
  have hp := el_prod hb' hn hi
  obtain ⟨a1, a2, a3, a4, a5, a6⟩ := h
  have hr := pe_rng (bs.getD k 0)
  have hm := pm_lt (bs.getD k 0)
  have e1 := (congrArg exF (take_snoc bs k hk)).trans ((exF_snoc _ _).trans (add_one _ hb'))
  rw [hn, hi] at e1
  have e2 : exZ (bs.take (k + 1)) = exZ (bs.take k) + prod (pt 52 11 1023 (bs.getD k 0)) one64 := by rw [take_snoc bs k hk, exZ_snoc]
  generalize bs.getD k 0 = b at *
  obtain ⟨A, hA⟩ : ∃ A : Nat, peB b + 2200 = (A : Int) := ⟨(peB b + 2200).toNat, by omega⟩
  rw [hA, Int.toNat_natCast] at hp
  refine ⟨plF f (A / 16) (pmB b * 2 ^ (A % 16) % 18446744073709551616) (hiF (pmB b) (A % 16)) (sgB b), fun w => ?_, ?_⟩
  · have := plus_any f (pmB b) A (sgB b) w hm (by omega) fun j => by have := a6 j; omega
    rw [show (A : Int) - 2200 = peB b by omega] at this
    exact this
  · refine ⟨by rw [e1]; simp [a1], by rw [e1]; simp [a2], by rw [e1]; simp [a3], ?_, ?_, fun j => ?_⟩
    · rw [e1, a4]
      dsimp only
      cases decide (0 < bs.length) <;> cases (exF (bs.take k)).o <;> cases nulB b <;> cases sgB b <;> rfl
    · rw [plus_val f (pmB b) A (sgB b) 280 hm (by omega), e2, Int.add_mul, hp, a5]
    · have h1 := plF_near f (A / 16) (pmB b * 2 ^ (A % 16) % 18446744073709551616) (hiF (pmB b) (A % 16)) (sgB b) (hi_small _ _ (by omega) hm) j
      have h2 := a6 j
      push_cast
      omega
theorem exZ_noughts {bs : List Nat} (hb : ∀ b ∈ bs, b < 18446744073709551616) (h : (exF bs).o = false) : exZ bs = 0 := by
  have key : ∀ j, j ≤ bs.length → (exF (bs.take j)).o = false ∧ exZ (bs.take j) = 0 ∨ (exF (bs.take j)).o = true := by
    intro j
    induction j with
    | zero => intro _; exact .inl ⟨rfl, rfl⟩
    | succ j ih =>
      intro hl
      have hb' := getD_lt hb j (by omega)
      rw [take_snoc bs j (by omega), exF_snoc, exZ_snoc, add_one _ hb']
      rcases ih (by omega) with ⟨h1, h2⟩ | h1
      · rw [h1, h2]
        cases hz : nulB (bs.getD j 0) && sgB (bs.getD j 0)
        · exact .inr rfl
        · refine .inl ⟨rfl, ?_⟩
          obtain ⟨k4, k3, k0⟩ := el_kind hb'
          have : nulB (bs.getD j 0) = true := by simp at hz; exact hz.1
          unfold prod pNt
          rw [k0, this]
          simp
      · exact .inr (by rw [h1]; rfl)
  rcases key bs.length (Nat.le_refl _) with ⟨-, h2⟩ | h1
  · rwa [List.take_length] at h2
  · rw [List.take_length, h] at h1
    exact absurd h1 (by decide)
theorem small_big {V X : Nat} (n q : Nat) (hm : n + 52 ≤ 16 * q) (hV : V = X * 2 ^ 52) (h : X < 2 ^ n) : V < 65536 ^ q := by
  rw [hV, pow_flat q (16 * q) rfl]
  exact Nat.lt_of_lt_of_le (Nat.mul_lt_mul_of_pos_right h (Nat.two_pow_pos 52)) (by rw [← Nat.pow_add]; exact Nat.pow_le_pow_right (by decide) hm)
/-- The end: the sum as the program tells it. -/
theorem RxAt.out {bs : List Nat} {al : Bool} {f : Nat → Int} (h : RxAt bs bs.length false false al f) (hb : ∀ b ∈ bs, b < 18446744073709551616) (hl : bs.length ≤ 65536) (w : World) : Calls Try.prog 62 #[.agg (rowB f), .bool al] w fun e w' => e = .returned (.float .f64 (rxB bs)) ∧ Below w.heap.size w w' := by
  obtain ⟨a1, a2, a3, a4, a5, a6⟩ := h
  rw [List.take_length] at *
  have hV : (bigV f 280).natAbs = (exZ bs).natAbs * 2 ^ 52 := by rw [a5, Int.natAbs_mul, Int.natAbs_natCast]
  have hs : (bigV f 280).natAbs < 65536 ^ 280 := small_big 4213 280 (by omega) hV (exZ_small hl)
  have ho := out_any f al w (fun j => by have := a6 j; omega) hs
  have e : outB (bigV f 280) al = rxB bs := by
    unfold rxB exB exV outB
    rw [← a2, ← a3, a1, hV, rd_near]
    simp only [Bool.false_eq_true, Bool.and_false, Bool.or_false, if_false]
    have hz : bigV f 280 < 0 ↔ exZ bs < 0 := by rw [a5]; omega
    have hz2 : bigV f 280 = 0 ↔ exZ bs = 0 := by rw [a5]; omega
    cases hal : al
    · have hmo : ((exF bs).m && !(exF bs).o) = false := by
        cases ho : (exF bs).o
        · rw [hal, ho] at a4
          have hl0 : bs.length = 0 := by simpa using a4.symm
          have : bs = [] := List.length_eq_zero_iff.1 hl0
          subst this
          rfl
        · simp
      rw [hmo]
      simp only [Bool.false_eq_true, and_false, if_false]
      unfold rz
      by_cases c : exZ bs < 0
      · rw [if_pos (hz.2 c), if_pos c, Nat.add_comm]
      · rw [if_neg (fun q => c (hz.1 q)), if_neg c, Nat.zero_add]
    · rw [hal] at a4
      have a4' := a4.symm
      simp at a4'
      have hm := exF_o hb a4'.1 a4'.2
      rw [hm, a4'.2]
      have hzz : exZ bs = 0 := exZ_noughts hb a4'.2
      rw [if_pos ⟨hz2.2 hzz, rfl⟩]
      rfl
  rw [e] at ho
  exact ho
end Go.Proofs.Ytdhfkdopcphjlab
