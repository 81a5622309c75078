/-
  The contract of strings.Replace and strings.ReplaceAll where one byte takes another one's place. Condition: the text is no longer than 2^47 bytes.
-/
import Derived.Test.YtoliiccmfmgmlaaDoorBk
import Derived.Deep.LoopGhost
import Derived.Lib.SlicesS
namespace Go.Proofs.YtoliiccmfmgmlaaDoor
open Go.RowKit
theorem ix (a c : UInt8) : ∀ m : List UInt8, 0 < m.count a → ∃ j : Nat, Lib.indexByte m a = (j : Int) ∧ j < m.length ∧ (m.take (j + 1)).map (swB a c) = m.take j ++ [c] ∧ (m.drop (j + 1)).count a + 1 = m.count a
  | [], h => absurd h (by simp)
  | b :: m, h => by
    by_cases e : b = a
    · subst e
      refine ⟨0, by simp [Lib.indexByte], by simp, by simp [swB], by simp⟩
    · have hc : (b :: m).count a = m.count a := by rw [List.count_cons_of_ne e]
      rw [hc] at h ⊢
      obtain ⟨j, h1, h2, h3, h4⟩ := ix a c m h
      refine ⟨j + 1, ?_, by simp; omega, ?_, by simpa using h4⟩
      · have hb : (b == a) = false := beq_eq_false_iff_ne.2 e
        have hj : ((j : Int) == -1) = false := beq_eq_false_iff_ne.2 (by omega)
        simp [Lib.indexByte, hb, h1, hj]
      · have hs : swB a c b = b := if_neg e
        rw [List.take_succ_cons, List.map_cons, h3, hs]; rfl
theorem no_map (a c : UInt8) : ∀ m : List UInt8, m.count a = 0 → m.map (swB a c) = m
  | [], _ => rfl
  | b :: m, h => by
    have hb : b ≠ a := fun e => by subst e; simp at h
    rw [List.count_cons_of_ne hb] at h
    rw [List.map_cons, no_map a c m h, show swB a c b = b from if_neg hb]
theorem sw_is (a c : UInt8) (s : ByteArray) : sw a c s = ⟨(s.data.toList.map (swB a c)).toArray⟩ := by
  apply ByteArray.ext
  show s.data.map (swB a c) = (s.data.toList.map (swB a c)).toArray
  rw [← Array.toList_map]
theorem front_next (a c : UInt8) (l : List UInt8) (st j : Nat) (h3 : ((l.drop st).take (j + 1)).map (swB a c) = (l.drop st).take j ++ [c]) : (l.take st).map (swB a c) ++ (l.drop st).take j ++ [c] = (l.take (st + j + 1)).map (swB a c) := by
  rw [List.append_assoc, ← h3, ← List.map_append]
  congr 1
  rw [show st + j + 1 = st + (j + 1) by omega]
  exact (List.take_add (l := l) (i := st) (j := j + 1)).symm
set_option maxHeartbeats 4000000 in
set_option maxRecDepth 100000 in
theorem replace_one (s : ByteArray) (a c : UInt8) (w : World) (hne : a ≠ c) (hs : s.size ≤ 140737488355328) :
    Calls Tryd.prog 32 #[.string s, .string ⟨#[a]⟩, .string ⟨#[c]⟩, .int .i64 (-1)] w fun e w' => e = .returned (.string (sw a c s)) ∧ Below w.heap.size w w' := by
  have hC := Tryd.strings_Count_one s a w
  have hI := fun t W => Tryd.strings_Index_one t a W
  have hlen : s.data.toList.length = s.size := (Lib.size_eq s).symm
  have hbeq : ((⟨#[a]⟩ : ByteArray).toList == (⟨#[c]⟩ : ByteArray).toList) = false := (Lib.bytes_beq_false_iff _ _).2 (fun e => hne (by injection e with e; simpa using e))
  have hnc : Lib.strCells ⟨#[c]⟩ = Lib.byteCells [c] := Lib.strCells_eq _
  obtain ⟨old, hold⟩ : ∃ old, (⟨#[a]⟩ : ByteArray) = old := ⟨_, rfl⟩
  obtain ⟨new, hnew⟩ : ∃ new, (⟨#[c]⟩ : ByteArray) = new := ⟨_, rfl⟩
  have z1 : old.size = 1 := by rw [← hold]; rfl
  have z2 : new.size = 1 := by rw [← hnew]; rfl
  rw [hold] at hC hbeq ⊢
  rw [hnew] at hbeq hnc ⊢
  have hI' : ∀ t W, Calls Tryd.prog 51 #[.string t, .string old] W fun e w' => e = .returned (.int .i64 (Lib.indexByte t.data.toList a)) ∧ w' = W := fun t W => by rw [← hold]; exact hI t W
  clear hI hold hnew
  obtain ⟨cn, hcn⟩ : ∃ cn : Nat, Lib.countByte s.data.toList a = cn := ⟨_, rfl⟩
  rw [hcn] at hC
  have hcn' : s.data.toList.count a = cn := hcn
  have hcl : cn ≤ s.size := by rw [← hcn', ← hlen]; exact List.count_le_length
  clear hcn
  rw [sw_is]
  by_cases hz : cn = 0
  · subst hz
    rw [no_map a c _ hcn']
    have hsd : (⟨s.data.toList.toArray⟩ : ByteArray) = s := by apply ByteArray.ext; simp
    rw [hsd]
    go_enter Tryd.func32, Tryd.ntmps32
    go_wp2_with (go_at_call 49; refine hC.mono ?_; rintro e w' ⟨rfl, hw⟩; rw [hw])
    go_ret
    exact ⟨rfl, Below.refl _ _⟩
  · have hcz : ((cn : Int) == 0) = false := beq_eq_false_iff_ne.2 (by omega)
    have ho0 : decide ((0 : Int) < (old.size : Int)) = true := decide_eq_true (by omega)
    have hga : Below w.heap.size w w := Below.refl _ _
    go_enter Tryd.func32, Tryd.ntmps32
    go_wp2_with (go_at_call 49; refine hC.mono ?_; rintro e w' ⟨rfl, hw⟩; rw [hw])
    refine (Tryd.Builder_Grow_fresh w.heap.size w.heap.size s.size _ (Nat.le_refl _) (heap_alloc_last w _) (by simp) (by omega)).mono ?_
    rintro e w1 ⟨rfl, hb0, hb1⟩
    have H1 : Hid (Lib.IsBuilder 45 5 w.heap.size w.heap.size (Lib.byteCells []) w1) := Or.inr hb0
    have Hb1 : Hid (Below w.heap.size w w1) := ((Below.refl w.heap.size w).alloc (Nat.le_refl _) _).trans hb1
    clear hb0 hb1 hga hC
    go_wp2_with fail
    go_loopg [11, 53] cn (fun g s11 s53 wx => ∃ (i st : Nat), s53 = .int .i64 i ∧ s11 = .int .i64 st ∧ i + g = cn ∧ st ≤ s.size ∧ Hid (Lib.IsBuilder 45 5 w.heap.size w.heap.size (Lib.byteCells ((s.data.toList.take st).map (swB a c))) wx) ∧ Hid (Below w.heap.size w wx) ∧ Hid ((s.data.toList.drop st).count a = g))
    case atStart => exact ⟨0, 0, rfl, rfl, by omega, Nat.zero_le _, by simpa using H1, Hb1, (by show (s.data.toList.drop 0).count a = cn; simpa using hcn')⟩
    case round =>
      obtain ⟨i, st, rfl, rfl, hig, hst, HB, HW, HG⟩ := hrel
      have hBw : w.heap.size ≤ wr.heap.size := HW.out.size
      have c1 : (0 : Int) ≤ (st : Int) := by omega
      have c2 : (st : Int) ≤ (s.size : Int) := by omega
      have hfl : ((s.data.toList.take st).map (swB a c)).length = st := by rw [List.length_map, List.length_take]; omega
      cases gk with
      | zero =>
        have hiK : ¬ ((i : Int) < (cn : Int)) := by omega
        go_wp2_with fail
        refine (wstr_any w.heap.size w.heap.size _ _ wr HB.out (by rw [Lib.byteCells_length, hfl, ByteArray.size_extract]; omega) hBw).mono ?_
        rintro e w3 ⟨rfl, h3, hb3, _⟩
        rw [Lib.strCells_eq, Lib.extract_to_end, ← Lib.byteCells_append] at h3
        have hfin : (s.data.toList.take st).map (swB a c) ++ s.data.toList.drop st = s.data.toList.map (swB a c) := by
          have e1 := no_map a c _ HG.out
          conv => rhs; rw [← List.take_append_drop st s.data.toList, List.map_append, e1]
        rw [hfin] at h3
        have H3 : Hid (Lib.IsBuilder 45 5 w.heap.size w.heap.size (Lib.byteCells (s.data.toList.map (swB a c))) w3) := h3
        have Hb3 : Hid (Below w.heap.size w w3) := HW.out.trans hb3
        have hBw3 : w.heap.size ≤ w3.heap.size := Hb3.out.size
        clear h3 hb3 hfin
        go_wp2_with fail
        refine (Tryd.Builder_String_any w.heap.size w.heap.size _ w3 H3.out hBw3).mono ?_
        rintro e w5 ⟨rfl, hb5⟩
        have Hb5 : Hid (Below w.heap.size w w5) := Hb3.out.trans hb5
        clear hb5
        go_wp2
        go_ret
        exact ⟨rfl, Hb5.out⟩
      | succ g =>
        have hiK : (i : Int) < (cn : Int) := by omega
        obtain ⟨j, hj, hjl, hj3, hj4⟩ := ix a c (s.data.toList.drop st) (by rw [HG.out]; omega)
        have hroom : st + j + 1 ≤ s.size := by rw [List.length_drop, hlen] at hjl; omega
        have c3 : (st : Int) ≤ (st : Int) + (j : Int) := by omega
        have c4 : (st : Int) + (j : Int) ≤ (s.size : Int) := by omega
        have hcnt : (s.data.toList.drop (st + j + 1)).count a = g := by
          have := HG.out
          rw [List.drop_drop] at hj4
          rw [show st + j + 1 = st + (j + 1) by omega]
          omega
        have Hn : Hid (Lib.byteCells ((s.data.toList.take st).map (swB a c)) ++ Lib.strCells (s.extract st (st + j)) ++ Lib.strCells new = Lib.byteCells ((s.data.toList.take (st + j + 1)).map (swB a c))) := by
          show _ = _
          rw [hnc, Lib.strCells_eq, Lib.extract_data, Nat.add_sub_cancel_left, ← Lib.byteCells_append, ← Lib.byteCells_append, front_next a c _ st j hj3]
        have Hc : Hid ((s.data.toList.drop (st + j + 1)).count a = g) := hcnt
        clear hcnt hj3 hj4 hnc HG
        go_wp2_with (go_at_call 51; refine (hI' _ _).mono ?_; rintro e w' ⟨rfl, hw⟩; rw [hw, Lib.extract_to_end, hj])
        refine (wstr_any w.heap.size w.heap.size _ (s.extract st (st + j)) wr HB.out (by rw [Lib.byteCells_length, hfl, ByteArray.size_extract]; omega) hBw).mono ?_
        rintro e w3 ⟨rfl, h3, hb3, _⟩
        have hBw3 : w.heap.size ≤ w3.heap.size := Nat.le_trans hBw hb3.size
        have H3 : Hid (Lib.IsBuilder 45 5 w.heap.size w.heap.size (Lib.byteCells ((s.data.toList.take st).map (swB a c)) ++ Lib.strCells (s.extract st (st + j))) w3) := h3
        have Hb3 : Hid (Below w.heap.size wr w3) := hb3
        clear h3 hb3
        go_wp2_with fail
        refine (wstr_any w.heap.size w.heap.size _ new w3 H3.out (by rw [List.length_append, Lib.byteCells_length, hfl, Lib.strCells_length, ByteArray.size_extract]; omega) hBw3).mono ?_
        rintro e w4 ⟨rfl, h4, hb4, _⟩
        rw [Hn.out] at h4
        have H4 : Hid (Lib.IsBuilder 45 5 w.heap.size w.heap.size (Lib.byteCells ((s.data.toList.take (st + j + 1)).map (swB a c))) w4) := h4
        have Hb4 : Hid (Below w.heap.size w w4) := (HW.out.trans Hb3.out).trans hb4
        clear h4 hb4
        go_wp2
        go_roundg g
        case measure => omega
        case rel => exact ⟨i + 1, st + j + 1, by first | rfl | (simp; unfold wrap64; omega), by first | rfl | simp | (simp; unfold wrap64; omega), by omega, by omega, H4, Hb4, Hc⟩
set_option maxHeartbeats 1000000 in
theorem replaceAll_one (s : ByteArray) (a c : UInt8) (w : World) (hne : a ≠ c) (hs : s.size ≤ 140737488355328) :
    Calls Tryd.prog 17 #[.string s, .string ⟨#[a]⟩, .string ⟨#[c]⟩] w fun e w' => e = .returned (.string (sw a c s)) ∧ Below w.heap.size w w' := by
  have k := replace_one s a c w hne hs
  go_enter Tryd.func17, Tryd.ntmps17
  go_wp2_with (go_at_call 32; refine k.mono ?_; rintro e w' ⟨rfl, hw⟩)
  go_ret
  exact ⟨rfl, hw⟩
end Go.Proofs.YtoliiccmfmgmlaaDoor
