/-
  The document's Hex: a number's digits to the base 16, four at least.
-/
import Derived.Test.YtcjlplaepnpopaaDoorFd
import Derived.Test.YtcjlplaepnpopaaDoorRp
import Derived.LoopN
import Derived.IntWalk
import Derived.OwnWalk
import Derived.WalkSmall
import Derived.BigQuiet
import Derived.Deep.QuietTactic
import Derived.KernelRfl
namespace Go.Proofs.YtcjlplaepnpopaaDoor
open Go.RowKit
/-- Digits to the base 16 as a text, with great letters. -/
def upc (l : List Nat) : ByteArray := ⟨(l.map fun d => UInt8.ofNat (uppC d)).toArray⟩
theorem upc_app (a c : List Nat) : upc (a ++ c) = upc a ++ upc c := by
  apply ByteArray.ext
  simp [upc]
theorem upc_size (l : List Nat) : (upc l).size = l.length := by simp [upc, ByteArray.size]
theorem upp_cut (k : Nat) (h : k < 16) : (⟨#[48, 49, 50, 51, 52, 53, 54, 55, 56, 57, 65, 66, 67, 68, 69, 70]⟩ : ByteArray).extract k (k + 1) = upc [k] := by
  rcases all16 k h with rfl | rfl | rfl | rfl | rfl | rfl | rfl | rfl | rfl | rfl | rfl | rfl | rfl | rfl | rfl | rfl <;> rfl
/-- A number's digits, four at least. -/
def hxL (p : Nat) : List Nat := List.replicate (4 - (dgs 16 p).length) 0 ++ dgs 16 p
def hxT (p : Nat) : ByteArray := upc (hxL p)
/-- The digits that are still to be told, where i are. -/
def hxF (i m : Nat) : List Nat := if m = 0 then List.replicate (4 - i) 0 else List.replicate (4 - i - (dgs 16 m).length) 0 ++ dgs 16 m
theorem dgs_pos (m : Nat) : 1 ≤ (dgs 16 m).length := by
  rw [dgs]
  split
  · simp
  · simp
theorem hxF_first (p : Nat) : hxF 0 p = hxL p := by
  unfold hxF hxL
  by_cases h : p = 0
  · subst h
    rw [if_pos rfl, dgs_small 16 0 (by omega)]
    rfl
  · rw [if_neg h, Nat.sub_zero]
theorem rep_snoc (n : Nat) : List.replicate (n + 1) (0 : Nat) = List.replicate n 0 ++ [0] := by
  rw [← List.replicate_append_replicate (n := n) (m := 1)]; rfl
theorem hxF_next (i m : Nat) (h : i < 4 ∨ 0 < m) : hxF i m = hxF (i + 1) (m / 16) ++ [m % 16] := by
  by_cases h0 : m = 0
  · subst h0
    unfold hxF
    rw [if_pos rfl, if_pos (by omega), show 4 - i = (4 - (i + 1)) + 1 by omega, rep_snoc]
  · by_cases h1 : m < 16
    · have e : m / 16 = 0 := Nat.div_eq_of_lt h1
      unfold hxF
      rw [if_neg h0, if_pos e, dgs_small 16 m h1, Nat.mod_eq_of_lt h1]
      congr 2
    · have e : ¬ m / 16 = 0 := by omega
      unfold hxF
      rw [if_neg h0, if_neg e, dgs_big 16 m (by omega) (by omega), List.append_assoc, List.length_append]
      congr 2
      simp only [List.length_singleton]
      omega
theorem hxF_last (i : Nat) (h : ¬ (i < 4 ∨ 0 < (0 : Nat))) : hxF i 0 = [] := by
  unfold hxF
  rw [if_pos rfl, show 4 - i = 0 by omega]; rfl
set_option maxRecDepth 100000 in
set_option maxHeartbeats 1000000 in
theorem hex_any (p : Nat) (w : World) (hp : p ≤ 1114111) : Calls Tryd.prog 34 #[.int .i32 (p : Int)] w fun e w' => e = .returned (.string (hxT p)) ∧ w' = w := by
  go_enter Tryd.func34, Tryd.ntmps34
  go_wp2
  go_loopw [0, 3, 4] (fun u o x wr => wr = w ∧ ∃ (m i : Nat) (O : List Nat), u = .int .i32 (m : Int) ∧ x = .int .i64 (i : Int) ∧ o = .string (upc O) ∧ m ≤ 1114111 ∧ i + m ≤ p + 4 ∧ Hid (O.length = i) ∧ Hid (hxF 0 p = hxF i m ++ O)) (fun u _ x _ => (RowKit.intOf u).toNat + (4 - (RowKit.intOf x).toNat))
  case atStart => exact ⟨rfl, p, 0, [], rfl, rfl, rfl, hp, by omega, rfl, by unfold Hid; rw [List.append_nil]⟩
  case round =>
    obtain ⟨rfl, m, i, O, rfl, rfl, rfl, hm, him, hO, HI⟩ := hrel
    have hcs := upc_size O
    rw [hO.out] at hcs
    by_cases hgo : i < 4 ∨ 0 < m
    · have hnx := hxF_next i m hgo
      have hdl : m % 16 < 16 := Nat.mod_lt _ (by omega)
      have hcut := upp_cut (m % 16) hdl
      have hz1 : (upc [m % 16]).size = 1 := by rw [upc_size]; rfl
      have happ : upc [m % 16] ++ upc O = upc (m % 16 :: O) := (upc_app [m % 16] O).symm
      have HI2 : Hid (hxF 0 p = hxF (i + 1) (m / 16) ++ (m % 16 :: O)) := by unfold Hid; rw [HI.out, hnx, List.append_assoc]; rfl
      have hlen : Hid ((m % 16 :: O).length = i + 1) := by unfold Hid; rw [List.length_cons, hO.out]
      obtain ⟨d, hd⟩ : ∃ d, m % 16 = d := ⟨_, rfl⟩
      obtain ⟨q, hq⟩ : ∃ q, m / 16 = q := ⟨_, rfl⟩
      have hq1 : (m : Int) / 16 = (q : Int) := by omega
      have hq2 : (m : Int).tdiv 16 = (q : Int) := by rw [Int.tdiv_eq_ediv_of_nonneg (by omega)]; exact hq1
      have hd1 : (m : Int).tmod 16 = (d : Int) := by rw [Int.tmod_eq_emod_of_nonneg (by omega)]; omega
      have hd2 : (m : Int) % 16 = (d : Int) := by omega
      have hqm : 0 < m → q < m := by omega
      have hqz : m = 0 → q = 0 := by omega
      have c1 : (0 : Int) ≤ (d : Int) := by omega
      have c2 : (d : Int) ≤ (d : Int) + 1 := by omega
      have c3 : (d : Int) + 1 ≤ 16 := by omega
      have c4 : ((d : Int) + 1).toNat = d + 1 := by omega
      have i9 : (i : Int) ≤ 2000000 := by omega
      rw [hd] at hcut hdl happ hz1 HI2 hlen
      rw [hq] at HI2
      obtain ⟨D, hD⟩ : ∃ D, upc [d] = D := ⟨_, rfl⟩
      rw [hD] at hcut happ hz1
      have hov : ¬ 9223372036854775807 < D.size + (upc O).size := by omega
      have HN : Hid (D ++ upc O = upc (d :: O)) := happ
      have hmq : q ≤ 1114111 := by omega
      have HQ : Hid ((0 < m → q < m) ∧ (m = 0 → q = 0) ∧ i + 1 + q ≤ p + 4) := ⟨hqm, hqz, by omega⟩
      clear hd hq HI hD hcs hnx happ hqm hqz
      obtain ⟨C, hC⟩ : ∃ C, upc O = C := ⟨_, rfl⟩
      rw [hC] at hov HN ⊢
      clear hC
      by_cases h4 : i < 4
      · have h4i : (i : Int) < 4 := by omega
        have h4d : decide ((i : Int) < 4) = true := decide_eq_true h4i
        go_wp2
        refine ⟨⟨by first | rfl | trivial, q, i + 1, d :: O, rfl, by first | rfl | simp, by rw [HN.out], hmq, HQ.out.2.2, hlen, HI2⟩, ?_⟩
        have := HQ.out.1; have := HQ.out.2.1
        simp [RowKit.intOf]; omega
      · have h4i : ¬ (i : Int) < 4 := by omega
        have h4d : decide ((i : Int) < 4) = false := decide_eq_false h4i
        have hm0 : 0 < m := by omega
        have hm1 : (0 : Int) < (m : Int) := by omega
        have hm2 : decide ((0 : Int) < (m : Int)) = true := decide_eq_true hm1
        go_wp2
        refine ⟨⟨by first | rfl | trivial, q, i + 1, d :: O, rfl, by first | rfl | simp, by rw [HN.out], hmq, HQ.out.2.2, hlen, HI2⟩, ?_⟩
        have := HQ.out.1; have := HQ.out.2.1
        simp [RowKit.intOf]; omega
    · obtain rfl : m = 0 := by omega
      have HF : Hid (hxT p = upc O) := by
        have e := HI.out
        rw [hxF_last i hgo, List.nil_append, hxF_first] at e
        unfold Hid hxT
        rw [e]
      have h4i : ¬ (i : Int) < 4 := by omega
      have h4d : decide ((i : Int) < 4) = false := decide_eq_false h4i
      obtain ⟨C, hC⟩ : ∃ C, upc O = C := ⟨_, rfl⟩
      rw [hC] at HF ⊢
      clear hC HI
      go_wp2
      exact bodyPost_ret (v := .string C) (by simp [results, Tryd.results34, go_sem]) rfl ⟨by rw [HF.out], rfl⟩
end Go.Proofs.YtcjlplaepnpopaaDoor
