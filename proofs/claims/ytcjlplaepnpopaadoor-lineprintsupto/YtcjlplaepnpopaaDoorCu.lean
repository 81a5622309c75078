/-
  The document's cut of a text at each space.
-/
import Derived.Test.YtcjlplaepnpopaaDoorPt
import Derived.Test.YtcjlplaepnpopaaDoorOw
import Derived.Laws.AppendOwn
import Derived.Deep.DeepMust
namespace Go.Proofs.YtcjlplaepnpopaaDoor
open Go.RowKit
/-- The words ahead of place k, cut at each byte c, and where the last one begins. -/
def cutA (s : ByteArray) (c : Nat) : Nat → List ByteArray × Nat
  | 0 => ([], 0)
  | k + 1 => if byt s k = c then ((cutA s c k).1 ++ [s.extract (cutA s c k).2 k], k + 1) else cutA s c k
def cutL (s : ByteArray) (c : Nat) : List ByteArray := (cutA s c s.size).1 ++ [s.extract (cutA s c s.size).2 s.size]
theorem cutA_le (s : ByteArray) (c : Nat) : ∀ k, (cutA s c k).1.length ≤ k ∧ (cutA s c k).2 ≤ k
  | 0 => ⟨Nat.le_refl _, Nat.le_refl _⟩
  | k + 1 => by
    have := cutA_le s c k
    rw [cutA]
    split
    · simp only [List.length_append, List.length_singleton]; omega
    · omega
set_option maxRecDepth 100000 in
set_option maxHeartbeats 4000000 in
theorem cut_any (s : ByteArray) (w : World) (hs : s.size < 4000000000000) : Calls Tryd.prog 24 #[.string s, .int .u8 32] w fun e w' => ∃ v, e = .returned v ∧ RwS w.heap.size w' v (cutL s 32) ∧ Below w.heap.size w w' := by
  have HS : Hid (s.size < 4000000000000) := hs
  have hE0 : Hid (RwS w.heap.size (w.alloc (.cells #[] 9)) (.slice (some ⟨w.heap.size, 0, none⟩) 0 0) []) := ⟨rfl, .inr ⟨_, _, _, rfl, Nat.le_refl _, heap_new _ _, by simp, by decide, rfl, rfl⟩⟩
  have hB0 : Hid (Below w.heap.size w (w.alloc (.cells #[] 9))) := (Below.refl _ _).alloc (Nat.le_refl _) _
  clear hs
  go_enter Tryd.func24, Tryd.ntmps24
  go_wp2
  generalize w.alloc (.cells #[] 9) = wx at *
  go_loopw [5, 6, 7] (fun v a x wr => ∃ k : Nat, x = .int .i64 (k : Int) ∧ k ≤ s.size ∧ a = .int .i64 ((cutA s 32 k).2 : Nat) ∧ Hid (RwS w.heap.size wr v (cutA s 32 k).1) ∧ Hid (Below w.heap.size w wr)) (fun _ _ x _ => s.size - (RowKit.intOf x).toNat)
  case atStart => exact ⟨0, rfl, Nat.zero_le _, rfl, hE0, hB0⟩
  case round =>
    clear hE0 hB0
    obtain ⟨wo, hwo⟩ : ∃ wo, wr = wo := ⟨_, rfl⟩
    rw [hwo] at hrel ⊢
    clear hwo
    obtain ⟨k, rfl, hk, ha, hR, hB⟩ := hrel
    obtain ⟨V, hV⟩ : ∃ V, u5 = V := ⟨_, rfl⟩
    rw [hV] at hR ⊢
    clear hV
    have hle := cutA_le s 32 k
    by_cases c : k < s.size
    · have c0 : (k : Int) < (s.size : Int) := by omega
      have c1 : decide ((k : Int) < (s.size : Int)) = true := decide_eq_true c0
      have q0 : (s[k]'c).toNat = byt s k := byt_eq s k c
      have k9 : (k : Int) ≤ 4000000000000 := by have := HS.out; omega
      have hst : cutA s 32 (k + 1) = if byt s k = 32 then ((cutA s 32 k).1 ++ [s.extract (cutA s 32 k).2 k], k + 1) else cutA s 32 k := rfl
      obtain ⟨Y, eY⟩ : ∃ Y, byt s k = Y := ⟨_, rfl⟩
      rw [eY] at q0 hst
      obtain ⟨⟨L, A⟩, eC⟩ : ∃ C, cutA s 32 k = C := ⟨_, rfl⟩
      rw [eC] at hst hR ha hle
      simp only at hst hR ha hle
      subst ha
      by_cases d : Y = 32
      · subst d
        rw [if_pos rfl] at hst
        have HT : Hid (cutA s 32 (k + 1) = (L ++ [s.extract A k], k + 1)) := hst
        have a1 : (A : Int) ≤ (k : Int) := by omega
        have a2 : (k : Int) ≤ (s.size : Int) := by omega
        have a3 : (0 : Int) ≤ (A : Int) := by omega
        have hl : L.length < 8000000000000 := by have := HS.out; omega
        have ho : w.heap.size ≤ wo.heap.size := hB.out.size
        clear hst eY eC hle
        go_wp2_with (at_builtin; go_must (refine wpList_appS rfl _ _ 44 rfl w.heap.size Tryd.underlying44 V L (s.extract A k) rfl hR.out rfl hl ho ?_))
        intro v' w' hR' _ hB'
        have HY : Hid (Hid (RwS w.heap.size w' v' (cutA s 32 (k + 1)).1) ∧ Hid (Below w.heap.size w w') ∧ (cutA s 32 (k + 1)).2 = k + 1) := by
          show Hid _ ∧ Hid _ ∧ _
          rw [HT.out]
          exact ⟨hR', hB.out.trans hB'.out, rfl⟩
        clear hR hB hR' hB' hl ho
        go_wp2
        refine ⟨⟨k + 1, by simp, by omega, by rw [HY.out.2.2]; simp, HY.out.1, HY.out.2.1⟩, ?_⟩
        simp [RowKit.intOf]; omega
      · rw [if_neg d] at hst
        have e1 : ((Y : Int) == 32) = false := beq_false_of_ne (by omega)
        have HY : Hid (Hid (RwS w.heap.size wo V (cutA s 32 (k + 1)).1) ∧ Hid (Below w.heap.size w wo) ∧ (cutA s 32 (k + 1)).2 = A) := by
          show Hid _ ∧ Hid _ ∧ _
          rw [hst]
          exact ⟨hR, hB, rfl⟩
        clear hst eY eC hle hR hB
        go_wp2
        refine ⟨⟨k + 1, by simp, by omega, by rw [HY.out.2.2], HY.out.1, HY.out.2.1⟩, ?_⟩
        simp [RowKit.intOf]; omega
    · obtain rfl : k = s.size := by omega
      have c1 : decide ((s.size : Int) < (s.size : Int)) = false := by simp
      have hst : cutL s 32 = (cutA s 32 s.size).1 ++ [s.extract (cutA s 32 s.size).2 s.size] := rfl
      obtain ⟨⟨L, A⟩, eC⟩ : ∃ C, cutA s 32 s.size = C := ⟨_, rfl⟩
      rw [eC] at hst hR ha hle
      simp only at hst hR ha hle
      subst ha
      have HT : Hid (cutL s 32 = L ++ [s.extract A s.size]) := hst
      have a1 : (A : Int) ≤ (s.size : Int) := by omega
      have a3 : (0 : Int) ≤ (A : Int) := by omega
      have hl : L.length < 8000000000000 := by have := HS.out; omega
      have ho : w.heap.size ≤ wo.heap.size := hB.out.size
      clear hst eC hle
      go_wp2_with (at_builtin; go_must (refine wpList_appS rfl _ _ 44 rfl w.heap.size Tryd.underlying44 V L (s.extract A s.size) rfl hR.out rfl hl ho ?_))
      intro v' w' hR' _ hB'
      have HY : Hid (RwS w.heap.size w' v' (cutL s 32) ∧ Below w.heap.size w w') := by
        show _ ∧ _
        rw [HT.out]
        exact ⟨hR', hB.out.trans hB'.out⟩
      clear hR hB hR' hB' hl ho
      go_wp2
      exact bodyPost_ret (v := v') (by simp [results, Tryd.results24, go_sem]) rfl ⟨v', rfl, HY.out.1, HY.out.2⟩
end Go.Proofs.YtcjlplaepnpopaaDoor
