/-
  Trim of two blanks.
-/
import Derived.Test.YtcjlplaepnpopaaDoorHc
import Derived.Test.YtcjlplaepnpopaaDoorSq
import Derived.Lib.AsciiSet
import Derived.LoopN
import Derived.OwnWalk
import Derived.WalkSmall
import Derived.BigQuiet
import Derived.Deep.QuietTactic
import Derived.KernelRfl
import Derived.Deep.WholeRow
namespace Go.Proofs.YtcjlplaepnpopaaDoor
open Go.RowKit
theorem toList_ne {s : ByteArray} (h : 0 < s.size) : (s.toList == []) = false := by
  rw [toList_nil]; exact decide_eq_false (by omega)
theorem toList_ie {s : ByteArray} (h : 0 < s.size) : s.toList.isEmpty = false := by
  have := toList_ne h
  cases q : s.toList with
  | nil => rw [q] at this; cases this
  | cons _ _ => rfl
set_option maxRecDepth 100000 in
theorem set_blanks (w : World) (o : Obj) : SetAt ((w.alloc o).alloc (.cells (Lib.setCells [32, 9]) 120)) (w.heap.size + 1) := fun Y hY => by
  rw [World.cell?_alloc_at _ _ _ _ (by simp)]
  have k := Lib.setCells_at [32, 9] (UInt8.ofNat Y)
  rw [UInt8.toNat_ofNat_of_lt' hY] at k
  rw [k]
  congr 2
  by_cases c : blk Y
  · rw [decide_eq_true c]
    rcases c with rfl | rfl <;> rfl
  · rw [decide_eq_false c]
    cases q : List.contains [32, 9] (UInt8.ofNat Y) with
    | false => rfl
    | true =>
      exfalso
      apply c
      rw [List.contains_iff_mem] at q
      have h1 : (UInt8.ofNat Y).toNat = Y := UInt8.toNat_ofNat_of_lt' hY
      simp only [List.mem_cons, List.mem_nil_iff, or_false] at q
      rcases q with q | q
      · rw [q] at h1; exact .inl h1.symm
      · rw [q] at h1; exact .inr h1.symm
theorem i120 : (Tryd.prog.info? 120).map (fun i => (i.zero, i.size)) = some (some (.agg (Array.replicate 256 (.bool false))), 256) := by kernel_rfl
theorem z120 : Tryd.zeroCells120 = Array.replicate 256 (.bool false) := by kernel_rfl
set_option maxRecDepth 100000 in
set_option maxHeartbeats 1000000 in
theorem trim_any (s : ByteArray) (w : World) (hs : s.size ≤ 140737488351232) : Calls Tryd.prog 68 #[.string s, .string ⟨#[32, 9]⟩] w fun e w' => (∃ t, e = .returned (.string t) ∧ (t = s ↔ okE s = true)) ∧ Below w.heap.size w w' := by
  by_cases h0 : 0 < s.size
  · have e1 := toList_ne h0
    have e2 := toList_ie h0
    have hM := Tryd.strings_makeASCIISet (zero_of_info i120).1 ⟨#[32, 9]⟩ w (by decide) (fun j b h => by
      have : j = 0 ∨ j = 1 ∨ 2 ≤ j := by omega
      rcases this with rfl | rfl | h2
      · cases h; decide
      · cases h; decide
      · rw [List.getElem?_eq_none (by simpa using h2)] at h; cases h)
    have hsc := run_storeCells_new (P := Tryd.prog) (w.alloc (.cells (Lib.setCells [32, 9]) 120)) 120 (Array.replicate 256 (.bool false)) (Lib.setCells [32, 9]) (by rw [Lib.setCells_size]; exact (zero_of_info i120).2) (by rw [Lib.setCells_size, Array.size_replicate]) (Lib.setCells_one _)
    have hS := set_blanks w (.cells (Lib.setCells [32, 9]) 120)
    have hz := Lib.setCells_size [32, 9]
    obtain ⟨C, hC⟩ : ∃ C, Lib.setCells [32, 9] = C := ⟨_, rfl⟩
    rw [show (⟨#[32, 9]⟩ : ByteArray).data.toList = [32, 9] from rfl, hC] at hM
    rw [hC] at hsc hS hz
    rw [show Array.replicate 256 (.bool false) = Tryd.zeroCells120 from z120.symm] at hsc
    have HS : Hid (SetAt ((w.alloc (.cells C 120)).alloc (.cells C 120)) (w.heap.size + 1)) := hS
    clear hS hC
    go_enter Tryd.func68, Tryd.ntmps68
    go_wp2_with (first
      | (go_at_call 77; refine hM.mono ?_; rintro e w' ⟨rfl, hw⟩; rw [hw]))
    have hsc2 : (storeCells ⟨w.heap.size + 1, 0, none⟩ C.toList).run Tryd.prog ((w.alloc (.cells C 120)).alloc (.cells Tryd.zeroCells120 120)) = .ok () ((w.alloc (.cells C 120)).alloc (.cells C 120)) := by simpa using hsc
    simp only [hsc2, Result.andThen]
    rw [Oper.upon_skip]
    have hB : Below w.heap.size w ((w.alloc (.cells C 120)).alloc (.cells C 120)) := ((Below.refl _ _).alloc (Nat.le_refl _) _).alloc (by simp) _
    obtain ⟨W, hW⟩ : ∃ W, (w.alloc (.cells C 120)).alloc (.cells C 120) = W := ⟨_, rfl⟩
    rw [hW] at hB HS ⊢
    have HB : Hid (Below w.heap.size w W) := hB
    clear hsc hsc2 hM hW hB hz
    go_wp2_with (go_at_call 82; refine (trimR_any s _ W hs HS.out).mono ?_)
    rintro e w2 ⟨⟨b, hb, rfl, g1, g2⟩, hw⟩
    rw [hw]
    clear hw w2
    have hz2 : (s.extract 0 b).size = b := by rw [ByteArray.size_extract]; omega
    have g3 : ∀ j, j < b → byt (s.extract 0 b) j = byt s j := fun j hj => byt_front s b j hb hj
    have HG : Hid ((b < s.size → blk (byt s (s.size - 1))) ∧ (0 < b → ¬ blk (byt s (b - 1)))) := ⟨g1, g2⟩
    clear g1 g2
    obtain ⟨T, eT⟩ : ∃ T, s.extract 0 b = T := ⟨_, rfl⟩
    rw [eT] at hz2 g3 ⊢
    have HT : Hid (s.extract 0 b = T) := eT
    clear eT
    go_wp2_with (go_at_call 81; refine (trimL_any T _ W HS.out).mono ?_)
    rintro e w2 ⟨⟨a, ha, rfl, g4, g5⟩, hw⟩
    rw [hw]
    clear hw w2
    have HE : Hid (T.extract a T.size = s.extract a b ∧ (s.extract a b = s ↔ okE s = true)) := by
      refine ⟨by rw [hz2, ← HT.out, ByteArray.extract_extract]; congr 1 <;> omega, ?_⟩
      rw [hz2] at ha g5
      have hC : Cutd s a b := ⟨ha, hb, fun h => by have := g4 h; rwa [g3 0 (by omega)] at this, HG.out.1⟩
      exact hC.says (fun _ h => by have := g5 h; rwa [g3 a h] at this) (fun _ h => HG.out.2 (by omega))
    clear g3 g4 g5 ha hz2 HG HS
    go_wp2
    exact bodyPost_ret (v := .string (T.extract a T.size)) (by simp [results, Tryd.results68, go_sem]) rfl ⟨⟨_, rfl, by rw [HE.out.1]; exact HE.out.2⟩, HB.out⟩
  · obtain rfl : s = ⟨#[]⟩ := by
      cases s with
      | mk d =>
        have h1 : (ByteArray.mk d).size = 0 := by omega
        have : d.size = 0 := h1
        rw [Array.eq_empty_of_size_eq_zero this]
    go_enter Tryd.func68, Tryd.ntmps68
    go_wp2
    exact bodyPost_ret (v := .string ⟨#[]⟩) (by simp [results, Tryd.results68, go_sem]) rfl ⟨⟨_, rfl, ⟨fun _ => decide_eq_true (.inl rfl), fun _ => rfl⟩⟩, Below.refl _ _⟩
theorem trimmed_any (s : ByteArray) (w : World) (hs : s.size ≤ 140737488351232) : Calls Tryd.prog 53 #[.string s] w fun e w' => (∃ t, e = .returned (.string t) ∧ (t = s ↔ okE s = true)) ∧ Below w.heap.size w w' := by
  go_enter Tryd.func53, Tryd.ntmps53
  go_wp2_with (go_at_call 68; refine (trim_any s w hs).mono ?_)
  rintro e w2 ⟨⟨t, rfl, ht⟩, hb⟩
  have HT : Hid (t = s ↔ okE s = true) := ht
  have HB : Hid (Below w.heap.size w w2) := hb
  clear ht hb
  go_wp2
  exact bodyPost_ret (v := .string t) (by simp [results, Tryd.results53, go_sem]) rfl ⟨⟨_, rfl, HT.out⟩, HB.out⟩
end Go.Proofs.YtcjlplaepnpopaaDoor
