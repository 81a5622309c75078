/-
  A code point, written.
-/
import Derived.Test.YtcjlplaepnpopaaDoorHk
import Derived.Test.YtcjlplaepnpopaaDoorLow
import Derived.Test.YtcjlplaepnpopaaDoorShelf
import Derived.LoopN
import Derived.IntWalk
import Derived.OwnWalk
import Derived.WalkSmall
import Derived.BigQuiet
import Derived.Deep.QuietTactic
import Derived.KernelRfl
namespace Go.Proofs.YtcjlplaepnpopaaDoor
open Go.RowKit
theorem fuint16 (n : Nat) (w : World) (hn : n ≤ 18446744073709551615) (hT : Tz w) (hg : 5 < w.heap.size) : Calls Tryd.prog 56 #[.int .u64 (n : Int), .int .i64 16] w fun e w' => e = .returned (.string (chs (dgs 16 n))) ∧ Below w.heap.size w w' := by
  have k := fbits16 n w hn hT hg
  obtain ⟨R, hR⟩ : ∃ R, chs (dgs 16 n) = R := ⟨_, rfl⟩
  rw [hR] at k ⊢
  clear hR hT
  have k70 : Calls Tryd.prog 70 #[.int .u64 (n : Int), .int .i64 16] w fun e w' => e = .returned (.string R) ∧ Below w.heap.size w w' := by
    go_enter Tryd.func70, Tryd.ntmps70
    go_wp2_with (go_at_call 88; refine k.mono ?_; rintro e w' ⟨rfl, hb⟩)
    go_ret
    exact ⟨rfl, hb⟩
  clear k
  go_enter Tryd.func56, Tryd.ntmps56
  go_wp2_with (go_at_call 70; refine k70.mono ?_; rintro e w' ⟨rfl, hb⟩)
  go_ret
  exact ⟨rfl, hb⟩
theorem print16 (n : Nat) (w : World) (hn : n ≤ 18446744073709551615) (hT : Tz w) (hg : 5 < w.heap.size) : Calls Tryd.prog 45 #[.int .u64 (n : Int), .int .i64 16] w fun e w' => e = .returned (.tuple #[.string (chs (dgs 16 n)), .int .i64 0]) ∧ Below w.heap.size w w' := by
  have k := fuint16 n w hn hT hg
  obtain ⟨R, hR⟩ : ∃ R, chs (dgs 16 n) = R := ⟨_, rfl⟩
  rw [hR] at k ⊢
  clear hR hT
  have k0 : Calls Tryd.prog 35 #[.int .i64 16] w fun e w' => e = .returned (.bool true) ∧ w' = w := by
    go_enter Tryd.func35, Tryd.ntmps35
    go_wp2
    go_ret
    exact ⟨rfl, rfl⟩
  go_enter Tryd.func45, Tryd.ntmps45
  go_wp2_with (first | (go_at_call 35; refine k0.mono ?_; rintro e w' ⟨rfl, rfl⟩) | (go_at_call 56; refine k.mono ?_; rintro e w' ⟨rfl, hb⟩))
  exact bodyPost_ret (v := .tuple #[.string R, .int .i64 0]) (by simp [results, Tryd.results45, go_sem]) rfl ⟨rfl, hb⟩
theorem dgs_lt (n : Nat) : ∀ d ∈ dgs 16 n, d < 16 := by
  induction n using Nat.strongRecOn with
  | ind n ih =>
    intro d hd
    by_cases c : n < 16
    · rw [dgs_small 16 n c] at hd
      simp only [List.mem_singleton] at hd
      omega
    · rw [dgs_big 16 n (by omega) (by omega), List.mem_append] at hd
      rcases hd with hd | hd
      · exact ih (n / 16) (by omega) d hd
      · simp only [List.mem_singleton] at hd
        omega
theorem upp_chs (l : List Nat) (hl : ∀ d ∈ l, d < 16) : strOfNums ((List.range (chs l).size).map fun j => upp (byteAt (chs l) j)) = upc l := by
  have h : (List.range (chs l).size).map (fun j => upp (byteAt (chs l) j)) = l.map fun d => ((uppC d : Nat) : Int) := by
    apply List.ext_getElem
    · simp [chs_size]
    · intro i h1 h2
      simp only [List.getElem_map, List.getElem_range]
      have hi : i < l.length := by simpa using h2
      have hd := hl _ (List.getElem_mem hi)
      have e : byteAt (chs l) i = lowC l[i] := by
        unfold byteAt chs
        simp only [List.getD, List.getElem?_map, List.getElem?_eq_getElem hi, Option.map_some, Option.getD_some]
        rw [UInt8.toNat_ofNat_of_lt' (show lowC l[i] < 256 by unfold lowC; split <;> omega)]
      rw [e]
      unfold upp lowC uppC
      split <;> split <;> omega
  rw [h]
  apply ByteArray.ext
  simp [strOfNums, upc]
theorem rep_zero (k : Nat) : (⟨(Lib.repeatL (⟨#[48]⟩ : ByteArray).data.toList k).toArray⟩ : ByteArray) = upc (List.replicate k 0) := by
  have h : ∀ k, Lib.repeatL (⟨#[48]⟩ : ByteArray).data.toList k = (List.replicate k 0).map fun d => UInt8.ofNat (uppC d) := by
    intro k
    induction k with
    | zero => rfl
    | succ k ih =>
      rw [Lib.repeatL, ih, List.replicate_succ, List.map_cons]
      rfl
  unfold upc
  rw [h]
theorem dgs_len : ∀ k n, n < 16 ^ (k + 1) → (dgs 16 n).length ≤ k + 1
  | 0, n, h => by
    rw [dgs_small 16 n (by simpa using h)]
    simp
  | k + 1, n, h => by
    by_cases c : n < 16
    · rw [dgs_small 16 n c]; simp
    · rw [dgs_big 16 n (by omega) (by omega), List.length_append]
      have := dgs_len k (n / 16) (by rw [Nat.div_lt_iff_lt_mul (by omega)]; rw [Nat.pow_succ] at h; exact h)
      simp only [List.length_singleton]
      omega
set_option maxRecDepth 100000 in
set_option maxHeartbeats 1000000 in
theorem written_any (p : Nat) (w : World) (hp : p ≤ 1114111) (hT : Tz w) (hg : 5 < w.heap.size) : Calls Tryd.prog 32 #[.int .i32 (p : Int)] w fun e w' => e = .returned (.string (hxT p)) ∧ Hid (Below w.heap.size w w') := by
  have k45 := print16 p w (by omega) hT hg
  have hl : (dgs 16 p).length ≤ 6 := dgs_len 5 p (by omega)
  have k47 := fun w => upp_any (chs (dgs 16 p)) w (by rw [chs_size]; omega)
  simp only [upp_chs _ (dgs_lt p)] at k47
  have hz := chs_size (dgs 16 p)
  have k46 : ∀ w, Calls Tryd.prog 46 #[.string ⟨#[48]⟩, .int .i64 ((4 - (dgs 16 p).length : Nat) : Int)] w fun e w' => e = .returned (.string (upc (List.replicate (4 - (dgs 16 p).length) 0))) ∧ Below w.heap.size w w' := fun w => by
    rw [← rep_zero]
    exact Tryd.strings_Repeat ⟨#[48]⟩ (4 - (dgs 16 p).length) w (by omega) (by show 1 * _ ≤ _; omega)
  have HX : Hid (hxT p = upc (List.replicate (4 - (dgs 16 p).length) 0) ++ upc (dgs 16 p)) := by unfold Hid hxT hxL; rw [upc_app]
  have hu1 := upc_size (List.replicate (4 - (dgs 16 p).length) 0)
  have hu2 := upc_size (dgs 16 p)
  rw [List.length_replicate] at hu1
  obtain ⟨N, hN⟩ : ∃ N, (dgs 16 p).length = N := ⟨_, rfl⟩
  rw [hN] at hl hz HX hu1 hu2
  simp only [hN] at k46
  obtain ⟨S, hS⟩ : ∃ S, chs (dgs 16 p) = S := ⟨_, rfl⟩
  obtain ⟨U, hU⟩ : ∃ U, upc (dgs 16 p) = U := ⟨_, rfl⟩
  obtain ⟨c, hc⟩ : ∃ c, 4 - N = c := ⟨_, rfl⟩
  rw [hc] at HX hu1
  simp only [hc] at k46
  obtain ⟨Z, hZ⟩ : ∃ Z, upc (List.replicate c 0) = Z := ⟨_, rfl⟩
  rw [hZ, hU] at HX
  rw [hZ] at hu1
  rw [hU] at hu2
  rw [hS] at k45 hz
  simp only [hS, hU] at k47
  simp only [hZ] at k46
  have hp1 : (0 : Int) ≤ (p : Int) := by omega
  have hp2 : (p : Int) ≤ 1114111 := by omega
  have hN1 : (N : Int) ≤ 6 := by omega
  have hmx : max ((4 : Int) - (N : Int)) 0 = (c : Int) := by omega
  have hmx2 : max (0 : Int) ((4 : Int) - (N : Int)) = (c : Int) := by omega
  have hov : ¬ 9223372036854775807 < Z.size + U.size := by omega
  clear hN hS hU hZ hT
  go_enter Tryd.func32, Tryd.ntmps32
  go_wp2_with (go_at_call 45; refine k45.mono ?_)
  rintro e w2 ⟨rfl, hb⟩
  have HB : Hid (Below w.heap.size w w2) := hb
  clear hb k45
  go_wp2_with (go_at_call 46; refine (k46 _).mono ?_)
  rintro e w3 ⟨rfl, hb⟩
  have HB3 : Hid (Below w.heap.size w w3) := HB.out.trans (hb.mono HB.out.size)
  clear hb k46
  go_wp2_with (go_at_call 47; refine (k47 _).mono ?_)
  rintro e w4 ⟨rfl, hb⟩
  have HB4 : Hid (Below w.heap.size w w4) := HB3.out.trans (hb.mono HB3.out.size)
  clear hb k47
  go_wp2
  exact bodyPost_ret (v := .string (Z ++ U)) (by simp [results, Tryd.results32, go_sem]) rfl ⟨by rw [HX.out], HB4⟩
end Go.Proofs.YtcjlplaepnpopaaDoor
