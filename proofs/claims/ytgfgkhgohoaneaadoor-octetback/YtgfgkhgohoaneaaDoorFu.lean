/-
  The contracts of strconv's FormatUint and of Print: a number's digits to any base. Conditions: the number has 64 bits; the library's tables hold what their texts lay.
-/
import Derived.Test.YtgfgkhgohoaneaaDoorFb
import Derived.Test.YtgfgkhgohoaneaaDoorShelf
import Derived.Lib.Walk
import Derived.Lib.ItoaMem
import Derived.BigCall
import Derived.BigGuard
namespace Go.Proofs.YtgfgkhgohoaneaaDoor
open Go.RowKit Go.Sort
theorem dec_same (n : Nat) : (dgs 10 n).map (fun d => UInt8.ofNat (lowC d)) = Lib.decDigits n := by
  induction n using Nat.strongRecOn with
  | ind n ih =>
    by_cases h : n < 10
    · rw [dgs_small 10 n h, Lib.decDigits, dif_pos h]
      simp [lowC, h]
    · rw [dgs_big 10 n (by omega) (by omega), Lib.decDigits, dif_neg h, List.map_append, ih (n / 10) (by omega)]
      have : n % 10 < 10 := Nat.mod_lt _ (by omega)
      simp [lowC, this]
theorem chs_dec (n : Nat) : chs (dgs 10 n) = ⟨(Lib.decDigits n).toArray⟩ := by unfold chs; rw [dec_same]
theorem holds_zero0 (w : World) (T : TypeId) (nd : Nat) (hs : nd ≤ 24) : Holds (fun (b : UInt8) => Value.int .u8 (b.toNat : Int)) (w.alloc (.cells Lib.zeros24 T)) w.heap.size 0 (Array.replicate nd (0 : UInt8)) := fun j hj => by
  have hj' : j < nd := by simpa using hj
  refine ⟨?_, World.frozen?_alloc_new _ _ _ _⟩
  rw [World.cell?_alloc_new, Lib.zeros24_at _ (by omega), getElem!_pos _ j hj]
  simp
theorem below_put (w : World) (o : Obj) (dk : Array UInt8) (k : Nat) : Below w.heap.size w ((putRow (fun (b : UInt8) => Value.int .u8 (b.toNat : Int)) (w.alloc o) w.heap.size 0 dk).drewN k) := by
  rw [alloc_eq_grow]
  obtain ⟨os', _, e⟩ := putRow_grow_new (fun (b : UInt8) => Value.int .u8 (b.toNat : Int)) w #[o] w.heap.size 0 dk (Nat.le_refl _)
  rw [e]
  refine ⟨rfl, rfl, rfl, ?_, fun b hb => ?_⟩
  · show w.heap.size ≤ (grow w os').heap.size
    simp
  · exact heap_grow_old w os' hb
theorem slice49 (B nd : Nat) (h : nd ≤ 23) (W : World) : (Instr.sliceAt 49 (.pointer (some ⟨B, 0, none⟩)) none (some (.int .i64 (nd : Nat))) none).run Tryd.prog W = .ok (.slice (some ⟨B, 0, none⟩) nd 24) W := by
  have hal : Tryd.prog.arrayLen 49 = 24 := by kernel_rfl
  rw [run_sliceAt_array_h W 49 ⟨B, 0, none⟩ (by simp [Program.arrayLen, Program.elem, Tryd.underlying49]) .i64 (nd : Nat) (by omega) (by rw [hal]; omega), hal]
  go_simp
set_option maxHeartbeats 4000000 in
set_option maxRecDepth 100000 in
theorem fuint_10 (n : Nat) (w : World) (hn : n ≤ 18446744073709551615) (htab : Lib.TabIs Tryd.prog w "internal/strconv.uint64pow10" .u64 Lib.pow10Tab) : Calls Tryd.prog 22 #[.int .u64 n, .int .i64 10] w fun e w' => e = .returned (.string (chs (dgs 10 n))) ∧ Below w.heap.size w w' := by
  rw [chs_dec]
  by_cases hs : n < 100
  · have hsi : (n : Int) < 100 := by omega
    have k := fun w => Tryd.internal_strconv_small n hs w
    go_enter Tryd.func22, Tryd.ntmps22
    go_wp2_with (go_at_call 26; refine (k _).mono ?_; rintro e w' ⟨rfl, rfl⟩)
    go_ret
    exact ⟨rfl, Below.refl _ _⟩
  · have hsi : ¬ (n : Int) < 100 := by omega
    have hu1 : 1 ≤ n := by omega
    have hu64 : n < 18446744073709551616 := by omega
    have hnd20 : Lib.nDigits n ≤ 20 := by have := Lib.numDigits_eq n hu1 hu64; split at this <;> omega
    have kn := Tryd.internal_strconv_numDigits n hu1 hu64 (w.alloc (.cells Lib.zeros24 49)) (Lib.tabIs_alloc htab _)
    have hH0 := holds_zero0 w 49 (Lib.nDigits n) (by omega)
    have hfmt := Tryd.internal_strconv_formatBase10 w.heap.size 0 24 n (Array.replicate (Lib.nDigits n) 0) (w.alloc (.cells Lib.zeros24 49)) hH0 (by rw [Array.size_replicate]; exact Lib.lt_pow_nDigits n) hu64 (by rw [Array.size_replicate]; omega)
    rw [Array.size_replicate] at hfmt
    have hsl := slice49 w.heap.size (Lib.nDigits n) (by omega)
    have HH0 := Lib.hid hH0
    clear hH0 htab
    go_enter Tryd.func22, Tryd.ntmps22
    go_wp2_with (go_at_call 27; refine kn.mono ?_; rintro e w' ⟨rfl, rfl⟩)
    refine hfmt.mono ?_
    rintro e w' ⟨rfl, k, v', dk, rfl, hF⟩
    have hcv : (convert 45 9 (.slice (some ⟨w.heap.size, 0, none⟩) (Lib.nDigits n) 24)).run Tryd.prog ((putRow (fun (b : UInt8) => Value.int .u8 (b.toNat : Int)) (w.alloc (.cells Lib.zeros24 49)) w.heap.size 0 dk).drewN k) = .ok (.string ⟨(Lib.decDigits n).toArray⟩) ((putRow (fun (b : UInt8) => Value.int .u8 (b.toNat : Int)) (w.alloc (.cells Lib.zeros24 49)) w.heap.size 0 dk).drewN k) := by
      have h := run_convert_bytes_back (P := Tryd.prog) ((putRow (fun (b : UInt8) => Value.int .u8 (b.toNat : Int)) (w.alloc (.cells Lib.zeros24 49)) w.heap.size 0 dk).drewN k) 45 9 5 ⟨w.heap.size, 0, none⟩ 24 (Lib.decDigits n) Tryd.underlying45 Tryd.underlying5 Tryd.underlying9 (fun j hj => by
        rw [Lib.row_is_numeral hF j hj, Lib.add_plain, World.cell?_drewN]
        exact cell?_putRow (fun (b : UInt8) => Value.int .u8 (b.toNat : Int)) _ w.heap.size 0 _ dk HH0.out (by rw [hF.size, Array.size_replicate]) j (by rw [hF.size]; rw [Lib.decDigits_length] at hj; exact hj))
      rw [Lib.decDigits_length] at h
      exact h
    have HB : Hid (Below w.heap.size w ((putRow (fun (b : UInt8) => Value.int .u8 (b.toNat : Int)) (w.alloc (.cells Lib.zeros24 49)) w.heap.size 0 dk).drewN k)) := below_put w _ dk k
    clear HH0 hF
    go_wp2
    go_ret
    exact ⟨rfl, HB.out⟩
theorem fb_all (n b : Nat) (w : World) (hn : n ≤ 18446744073709551615) (hb1 : 2 ≤ b) (hb2 : b ≤ 36) (h10 : b ≠ 10) (hT : Tz w) (hg : 2 < w.heap.size) : Calls Tryd.prog 29 #[.slice none 0 0, .int .u64 n, .int .i64 b, .bool false, .bool false] w fun e w' => e = .returned (.tuple #[.slice none 0 0, .string (chs (dgs b n))]) ∧ Below w.heap.size w w' := by
  by_cases hp : pw b = true
  · have : b = 2 ∨ b = 4 ∨ b = 8 ∨ b = 16 ∨ b = 32 := by simpa [pw, or_assoc] using hp
    rcases this with rfl | rfl | rfl | rfl | rfl
    · exact fbits2 n w hn hT hg
    · exact fbits4 n w hn hT hg
    · exact fbits8 n w hn hT hg
    · exact fbits16 n w hn hT hg
    · exact fbits32 n w hn hT hg
  · exact fbits_gen n b w hn hb1 hb2 h10 (by simpa using hp)
set_option maxHeartbeats 1000000 in
theorem fuint_any (n b : Nat) (w : World) (hn : n ≤ 18446744073709551615) (hb1 : 2 ≤ b) (hb2 : b ≤ 36) (htab : Lib.TabIs Tryd.prog w "internal/strconv.uint64pow10" .u64 Lib.pow10Tab) (hT : Tz w) (hg : 2 < w.heap.size) : Calls Tryd.prog 22 #[.int .u64 n, .int .i64 b] w fun e w' => e = .returned (.string (chs (dgs b n))) ∧ Below w.heap.size w w' := by
  by_cases h10 : b = 10
  · subst h10
    exact fuint_10 n w hn htab
  · have k := fb_all n b w hn hb1 hb2 h10 hT hg
    have g3 : ((b : Int) == 10) = false := beq_eq_false_iff_ne.2 (by omega)
    obtain ⟨R, hR⟩ : ∃ R, chs (dgs b n) = R := ⟨_, rfl⟩
    rw [hR] at k ⊢
    clear hR htab hT
    go_enter Tryd.func22, Tryd.ntmps22
    go_wp2_with (go_at_call 29; refine k.mono ?_; rintro e w' ⟨rfl, hb⟩)
    go_ret
    exact ⟨rfl, hb⟩
set_option maxHeartbeats 1000000 in
theorem print_all (n : Nat) (B : Int) (w : World) (hn : n ≤ 18446744073709551615) (htab : Lib.TabIs Tryd.prog w "internal/strconv.uint64pow10" .u64 Lib.pow10Tab) (hT : Tz w) (hg : 2 < w.heap.size) : Calls Tryd.prog 7 #[.int .u64 n, .int .i64 B] w fun e w' => e = .returned (prA n B) ∧ Below w.heap.size w w' := by
  have k0 := isBase_any B w
  by_cases h : 2 ≤ B ∧ B ≤ 36
  · obtain ⟨b, rfl⟩ : ∃ b : Nat, B = (b : Int) := ⟨B.toNat, by omega⟩
    have k := fuint_any n b w hn (by omega) (by omega) htab hT hg
    rw [decide_eq_true h] at k0
    have HP : Hid (prA n b = .tuple #[.string (chs (dgs b n)), .int .i64 0]) := by unfold Hid prA; rw [if_pos h]; rfl
    obtain ⟨R, hR⟩ : ∃ R, chs (dgs b n) = R := ⟨_, rfl⟩
    rw [hR] at k HP
    have k18 : Calls Tryd.prog 18 #[.int .u64 n, .int .i64 b] w fun e w' => e = .returned (.string R) ∧ Below w.heap.size w w' := by
      clear k0 hT htab
      go_enter Tryd.func18, Tryd.ntmps18
      go_wp2_with (go_at_call 22; refine k.mono ?_; rintro e w' ⟨rfl, hb⟩)
      go_ret
      exact ⟨rfl, hb⟩
    clear k hT htab hR h
    go_enter Tryd.func7, Tryd.ntmps7
    go_wp2_with (first | (go_at_call 15; refine k0.mono ?_; rintro e w' ⟨rfl, rfl⟩) | (go_at_call 18; refine k18.mono ?_; rintro e w' ⟨rfl, hb⟩))
    exact bodyPost_ret (v := .tuple #[.string R, .int .i64 0]) (by simp [results, Tryd.results7, go_sem]) rfl ⟨by rw [HP.out], hb⟩
  · rw [decide_eq_false h] at k0
    have HP : Hid (prA n B = .tuple #[.string ⟨#[]⟩, .int .i64 11]) := by unfold Hid prA; rw [if_neg h]
    clear h hT htab
    go_enter Tryd.func7, Tryd.ntmps7
    go_wp2_with (first | (go_at_call 15; refine k0.mono ?_; rintro e w' ⟨rfl, rfl⟩))
    exact bodyPost_ret (v := .tuple #[.string ⟨#[]⟩, .int .i64 11]) (by simp [results, Tryd.results7, go_sem]) rfl ⟨by rw [HP.out], Below.refl _ _⟩
end Go.Proofs.YtgfgkhgohoaneaaDoor
