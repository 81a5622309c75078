/-
  The digits of a number to any base, and the contract of the document's Print. Condition: the number has 64 bits.
-/
import Derived.Test.YtgfgkhgohoaneaaDoorDg
import Derived.Lib.Strings
namespace Go.Proofs.YtgfgkhgohoaneaaDoor
open Go.RowKit
/-- The digits of a number, the greatest first. -/
def dgs (b n : Nat) : List Nat := if _h : 2 ≤ b ∧ b ≤ n then dgs b (n / b) ++ [n % b] else [n]
termination_by n
decreasing_by exact Nat.div_lt_self (by omega) (by omega)
theorem dgs_small (b n : Nat) (h : n < b) : dgs b n = [n] := by rw [dgs, dif_neg (by omega)]
theorem dgs_big (b n : Nat) (hb : 2 ≤ b) (h : b ≤ n) : dgs b n = dgs b (n / b) ++ [n % b] := by rw [dgs, dif_pos ⟨hb, h⟩]
/-- Digits as a text. -/
def chs (l : List Nat) : ByteArray := ⟨(l.map fun d => UInt8.ofNat (lowC d)).toArray⟩
theorem chs_app (a c : List Nat) : chs (a ++ c) = chs a ++ chs c := by
  apply ByteArray.ext
  simp [chs]
theorem chs_size (l : List Nat) : (chs l).size = l.length := by simp [chs, ByteArray.size]
theorem low_cut (k : Nat) (h : k < 36) : (⟨#[48, 49, 50, 51, 52, 53, 54, 55, 56, 57, 97, 98, 99, 100, 101, 102, 103, 104, 105, 106, 107, 108, 109, 110, 111, 112, 113, 114, 115, 116, 117, 118, 119, 120, 121, 122]⟩ : ByteArray).extract k (k + 1) = chs [k] := by
  rcases all36 k h with rfl | rfl | rfl | rfl | rfl | rfl | rfl | rfl | rfl | rfl | rfl | rfl | rfl | rfl | rfl | rfl | rfl | rfl | rfl | rfl | rfl | rfl | rfl | rfl | rfl | rfl | rfl | rfl | rfl | rfl | rfl | rfl | rfl | rfl | rfl | rfl <;> rfl
/-- Where the loop stands: the digits so far; they are no more than 63. -/
def PrIn (b n m : Nat) (O : List Nat) : Prop := dgs b n = dgs b m ++ O ∧ (O = [] ∨ 1 ≤ m) ∧ m * 2 ^ O.length ≤ n ∧ n ≤ 18446744073709551615
theorem PrIn.len {b n m : Nat} {O : List Nat} (h : PrIn b n m O) : O.length ≤ 63 := by
  obtain ⟨_, h1, h2, h3⟩ := h
  rcases h1 with rfl | h1
  · simp
  · by_cases q : O.length ≤ 63
    · exact q
    · have : 2 ^ 64 ≤ 2 ^ O.length := Nat.pow_le_pow_right (by omega) (by omega)
      have h4 : 2 ^ O.length ≤ m * 2 ^ O.length := Nat.le_mul_of_pos_left _ h1
      omega
theorem PrIn.next {b n m : Nat} {O : List Nat} (h : PrIn b n m O) (hb : 2 ≤ b) (hm : b ≤ m) : PrIn b n (m / b) (m % b :: O) := by
  obtain ⟨h0, h1, h2, h3⟩ := h
  refine ⟨?_, .inr (Nat.div_pos hm (by omega)), ?_, h3⟩
  · rw [h0, dgs_big b m hb hm, List.append_assoc]; rfl
  · have q1 : m / b * b ≤ m := Nat.div_mul_le_self m b
    have q2 : m / b * 2 ≤ m / b * b := Nat.mul_le_mul_left _ hb
    rw [List.length_cons, Nat.pow_succ, Nat.mul_comm (2 ^ O.length) 2, ← Nat.mul_assoc]
    exact Nat.le_trans (Nat.mul_le_mul_right _ (Nat.le_trans q2 q1)) h2
theorem PrIn.first (b n : Nat) (hn : n ≤ 18446744073709551615) : PrIn b n n [] := ⟨by simp, .inl rfl, by simp, hn⟩
theorem PrIn.last {b n m : Nat} {O : List Nat} (h : PrIn b n m O) (hm : m < b) : dgs b n = m :: O := by rw [h.1, dgs_small b m hm]; rfl
set_option maxRecDepth 100000 in
set_option maxHeartbeats 4000000 in
theorem rprint_any (n b : Nat) (w : World) (hn : n ≤ 18446744073709551615) (hb1 : 2 ≤ b) (hb2 : b ≤ 36) : Calls Tryd.prog 8 #[.int .u64 n, .int .i64 b] w fun e w' => e = .returned (.tuple #[.string (chs (dgs b n)), .int .i64 0]) ∧ w' = w := by
  have g1 : decide ((b : Int) < 2) = false := decide_eq_false (by omega)
  have g2 : decide ((36 : Int) < (b : Int)) = false := decide_eq_false (by omega)
  have hbz : ((b : Int) == 0) = false := beq_eq_false_iff_ne.2 (by omega)
  go_enter Tryd.func8, Tryd.ntmps8
  go_wp2
  go_loopw [0, 6] (fun u o wr => wr = w ∧ ∃ (m : Nat) (O : List Nat), u = .int .u64 m ∧ o = .string (chs O) ∧ m ≤ 18446744073709551615 ∧ Hid (PrIn b n m O)) (fun u _ _ => (intOf u).toNat)
  case atStart => exact ⟨rfl, n, [], rfl, rfl, hn, PrIn.first b n hn⟩
  case round =>
    obtain ⟨rfl, m, O, rfl, rfl, hm, HI⟩ := hrel
    have hl := HI.out.len
    have hcs := chs_size O
    have hdl : m % b < b := Nat.mod_lt _ (by omega)
    have hcut := low_cut (m % b) (by omega)
    have hz1 : (chs [m % b]).size = 1 := by rw [chs_size]; rfl
    have happ : chs [m % b] ++ chs O = chs (m % b :: O) := (chs_app [m % b] O).symm
    obtain ⟨d, hd⟩ : ∃ d, m % b = d := ⟨_, rfl⟩
    obtain ⟨q, hq⟩ : ∃ q, m / b = q := ⟨_, rfl⟩
    have hq1 : (m : Int) / (b : Int) = (q : Int) := by rw [← hq]; rfl
    have hd1 : (m : Int).tmod (b : Int) = (d : Int) := by rw [Int.tmod_eq_emod_of_nonneg (by omega), ← hd]; rfl
    have hd2 : (m : Int) % (b : Int) = (d : Int) := by rw [← hd]; rfl
    have hqm : q ≤ m := by rw [← hq]; exact Nat.div_le_self _ _
    have c1 : (0 : Int) ≤ (d : Int) := by omega
    have c2 : (d : Int) ≤ (d : Int) + 1 := by omega
    have c3 : (d : Int) + 1 ≤ 36 := by omega
    have c4 : ((d : Int) + 1).toNat = d + 1 := by omega
    rw [hd] at hcut hdl happ hz1
    obtain ⟨D, hD⟩ : ∃ D, chs [d] = D := ⟨_, rfl⟩
    rw [hD] at hcut happ hz1
    have hov : ¬ 9223372036854775807 < D.size + (chs O).size := by omega
    by_cases hlast : m < b
    · have hq0 : q = 0 := by rw [← hq]; exact Nat.div_eq_of_lt hlast
      have hdm : d = m := by rw [← hd]; exact Nat.mod_eq_of_lt hlast
      have HF : Hid (chs (dgs b n) = D ++ chs O) := by show _ = _; rw [HI.out.last hlast, happ, hdm]
      subst hq0
      clear hd hq HI happ hD hcs hdm hlast
      obtain ⟨C, hC⟩ : ∃ C, chs O = C := ⟨_, rfl⟩
      rw [hC] at hov HF ⊢
      go_wp2
      exact bodyPost_ret (v := .tuple #[.string (D ++ C), .int .i64 0]) (by simp [results, Tryd.results8, go_sem]) rfl ⟨by rw [HF.out], rfl⟩
    · have hqz : ((q : Int) == 0) = false := beq_eq_false_iff_ne.2 (by have := Nat.div_pos (Nat.le_of_not_lt hlast) (by omega : 0 < b); omega)
      have hlt : q < m := by rw [← hq]; exact Nat.div_lt_self (by omega) (by omega)
      have HN : Hid (PrIn b n q (d :: O) ∧ D ++ chs O = chs (d :: O)) := by
        have := HI.out.next hb1 (Nat.le_of_not_lt hlast)
        rw [hd, hq] at this
        exact ⟨this, happ⟩
      clear hd hq HI happ hD hcs
      obtain ⟨C, hC⟩ : ∃ C, chs O = C := ⟨_, rfl⟩
      rw [hC] at hov HN ⊢
      go_wp2
      exact ⟨⟨by first | rfl | trivial, q, d :: O, rfl, by rw [HN.out.2], by omega, HN.out.1⟩, by simp [intOf]; omega⟩
/-- What a number is printed as: to no base nothing, and the error. -/
def prA (n : Nat) (B : Int) : Value := if 2 ≤ B ∧ B ≤ 36 then .tuple #[.string (chs (dgs B.toNat n)), .int .i64 0] else .tuple #[.string ⟨#[]⟩, .int .i64 11]
set_option maxRecDepth 100000 in
theorem rprint_all (n : Nat) (B : Int) (w : World) (hn : n ≤ 18446744073709551615) : Calls Tryd.prog 8 #[.int .u64 n, .int .i64 B] w fun e w' => e = .returned (prA n B) ∧ w' = w := by
  by_cases h : 2 ≤ B ∧ B ≤ 36
  · obtain ⟨b, rfl⟩ : ∃ b : Nat, B = (b : Int) := ⟨B.toNat, by omega⟩
    unfold prA
    rw [if_pos h]
    exact rprint_any n b w hn (by omega) (by omega)
  · have HP : Hid (prA n B = .tuple #[.string ⟨#[]⟩, .int .i64 11]) := by unfold Hid prA; rw [if_neg h]
    by_cases h1 : B < 2
    · have g1 : decide (B < 2) = true := decide_eq_true h1
      clear h
      go_enter Tryd.func8, Tryd.ntmps8
      go_wp2
      exact bodyPost_ret (v := .tuple #[.string ⟨#[]⟩, .int .i64 11]) (by simp [results, Tryd.results8, go_sem]) rfl ⟨by rw [HP.out], rfl⟩
    · have g1 : decide (B < 2) = false := decide_eq_false h1
      have g2 : decide (36 < B) = true := decide_eq_true (by omega)
      clear h h1
      go_enter Tryd.func8, Tryd.ntmps8
      go_wp2
      exact bodyPost_ret (v := .tuple #[.string ⟨#[]⟩, .int .i64 11]) (by simp [results, Tryd.results8, go_sem]) rfl ⟨by rw [HP.out], rfl⟩
end Go.Proofs.YtgfgkhgohoaneaaDoor
