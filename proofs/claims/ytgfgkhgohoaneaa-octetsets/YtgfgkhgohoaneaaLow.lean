/-
  The contracts of Lower and Upper, the program's and the document's: both make of a text the one whose letters are small, or great. Condition: the text takes no more bytes than a text that comes in can.
-/
import Derived.Test.YtgfgkhgohoaneaaProg
import Derived.Test.YtgfgkhgohoaneaaBys
import Derived.KernelRfl
import Derived.Maps.AppendAt
namespace Go.Proofs.Ytgfgkhgohoaneaa
open Go.RowKit

theorem owns_none (w : World) (e : TypeId) : (w.alloc (.cells #[] e)).ownsRow w.heap.size e 1 (.slice (some ⟨w.heap.size, 0, none⟩) 0 0) 0 [] :=
  ⟨rfl, .inr ⟨w.heap.size, 0, #[], rfl, Nat.le_refl _, by show (w.heap.push _)[w.heap.size]? = _; simp, Nat.le_refl _, by decide, rfl, rfl⟩⟩
theorem info5 : (Try.prog.info? 5).map (fun i => (i.zero, i.size, i.bytes)) = some (some (.int .u8 0), 1, 1) := by kernel_rfl

/-- A byte as a letter of the other size is wanted: small. -/
def low (b : Int) : Int := if 65 ≤ b ∧ b ≤ 90 then b + 32 else b
set_option maxHeartbeats 800000 in
theorem low_any (s : ByteArray) (w : World) (hs : s.size ≤ 140737488351232) : Calls Try.prog 12 #[.string s] w fun e w' => e = .returned (.string (strOfNums ((List.range s.size).map fun j => low (byteAt s j)))) ∧ Below w.heap.size w w' := by
  obtain ⟨c, W, hcv, hB, hbel, hsz⟩ := bytes_of (P := Try.prog) w 9 27 5 s Try.underlying9 Try.underlying27 Try.underlying5
  go_enter Try.func12, Try.ntmps12
  go_wp2_with fail
  clear hcv
  go_loopw [10] (fun i wr => ∃ k : Nat, k ≤ s.size ∧ i = .int .i64 k ∧ Bys wr w.heap.size s.size (fun j => if j < k then low (byteAt s j) else byteAt s j) ∧ Below w.heap.size w wr) (fun i _ => s.size - (intOf i).toNat)
  case atStart => exact ⟨0, by omega, rfl, hB.congr (fun j _ => by simp), hbel⟩
  case round =>
    obtain ⟨k, hk, rfl, hBr, hbr⟩ := hrel
    by_cases hlt : k < s.size
    · obtain ⟨hc, hf⟩ := hBr k hlt
      dsimp only at hc
      rw [if_neg (by omega)] at hc
      have hl := byteAt_lt s k
      obtain ⟨b, HBk⟩ : ∃ b : Int, Hid ((byteAt s k : Int) = b) := ⟨_, rfl⟩
      have hb0 : 0 ≤ b := by have := HBk.out; omega
      have hb1 : b ≤ 255 := by have := HBk.out; omega
      rw [HBk.out] at hc
      have HR : Hid (Bys wr w.heap.size s.size (fun j => if j < k then low (byteAt s j) else byteAt s j)) := hBr
      clear hBr hl
      by_cases hq : 65 ≤ b ∧ b ≤ 90
      · obtain ⟨hq1, hq2⟩ := hq
        go_wp2
        refine ⟨⟨k + 1, by omega, by go_num, ?_, hbr.setCell (by simp) _⟩, by simp [intOf]; omega⟩
        refine (HR.out.set k _).congr fun j _ => ?_
        by_cases e : j = k
        · subst e
          simp only [if_true, if_pos (Nat.lt_succ_self j)]
          rw [HBk.out]
          unfold low
          rw [if_pos ⟨hq1, hq2⟩]
          omega
        · have h1 : (j < k + 1) = (j < k) := by apply propext; omega
          simp only [if_neg e, h1]
      · have hq' : b < 65 ∨ 90 < b := by omega
        have hstay : Bys wr w.heap.size s.size (fun j => if j < k + 1 then low (byteAt s j) else byteAt s j) := by
          refine HR.out.congr fun j _ => ?_
          by_cases e : j = k
          · subst e
            rw [if_neg (Nat.lt_irrefl _), if_pos (Nat.lt_succ_self j), HBk.out]
            unfold low
            rw [if_neg hq]
          · have h1 : (j < k + 1) = (j < k) := by apply propext; omega
            simp only [h1]
        have HS : Hid (Bys wr w.heap.size s.size (fun j => if j < k + 1 then low (byteAt s j) else byteAt s j)) := hstay
        clear hstay hq
        rcases hq' with hq' | hq'
        all_goals
          go_wp2
          exact ⟨⟨k + 1, by omega, by go_num, HS.out, hbr⟩, by simp [intOf]; omega⟩
    · have e : k = s.size := by omega
      subst e
      have hcv := string_of (P := Try.prog) hBr 27 5 9 c Try.underlying27 Try.underlying5 Try.underlying9
      go_wp2
      go_ret
      refine ⟨congrArg (fun l => Ending.returned (.string (strOfNums l))) ?_, hbr⟩
      exact List.map_congr_left fun j hj => by rw [if_pos (List.mem_range.1 hj)]

set_option maxHeartbeats 800000 in
theorem rlow_any (s : ByteArray) (w : World) (hs : s.size ≤ 140737488351232) : Calls Try.prog 13 #[.string s] w fun e w' => e = .returned (.string (strOfNums ((List.range s.size).map fun j => low (byteAt s j)))) ∧ Below w.heap.size w w' := by
  obtain ⟨i0, hi, hz0, hz1, hz2⟩ := info_parts info5
  go_enter Try.func13, Try.ntmps13
  go_wp2_with fail
  go_loopw [3, 4] (fun v i wr => ∃ k : Nat, k ≤ s.size ∧ i = .int .i64 k ∧ wr.ownsRow w.heap.size 5 1 v k ((List.range k).map fun j => Value.int .u8 (low (byteAt s j))) ∧ Below w.heap.size w wr) (fun _ i _ => s.size - (intOf i).toNat)
  case atStart => exact ⟨0, by omega, rfl, owns_none _ _, (Below.refl _ _).alloc (by simp) _⟩
  case round =>
    obtain ⟨k, hk, rfl, hown, hbr⟩ := hrel
    by_cases hlt : k < s.size
    · have HBk : Hid (byteAt s k = s[k].toNat) := byteAt_eq s k hlt
      have hb1 : (s[k].toNat : Int) ≤ 255 := by have := UInt8.toNat_lt s[k]; omega
      have hsz := hbr.size
      have HO : Hid (wr.ownsRow w.heap.size 5 1 _ k ((List.range k).map fun j => Value.int .u8 (low (byteAt s j)))) := hown
      clear hown
      have HL : Hid (∀ x : Int, low s[k].toNat = x → ∀ (v' : Value) (w1 : World), w1.ownsRow w.heap.size 5 1 v' (k + 1) (((List.range k).map fun j => Value.int .u8 (low (byteAt s j))) ++ [Value.int .u8 x]) → w1.ownsRow w.heap.size 5 1 v' (k + 1) ((List.range (k + 1)).map fun j => Value.int .u8 (low (byteAt s j)))) := by
        intro x hx v' w1 h
        rw [List.range_succ, List.map_append, List.map_singleton, HBk.out, hx]
        exact h
      by_cases hq : 65 ≤ (s[k].toNat : Int) ∧ (s[k].toNat : Int) ≤ 90
      · have hlow : low s[k].toNat = s[k].toNat + 32 := by unfold low; rw [if_pos hq]
        have HX : Hid (low s[k].toNat = s[k].toNat + 32) := hlow
        clear hlow
        obtain ⟨hq1, hq2⟩ := hq
        go_wp2_with (at_builtin; refine wpList_append_own _ rfl _ _ 27 rfl w.heap.size 5 i0 (.int .u8 0) 1 1 Try.underlying27 hi hz0 hz1 hz2 rfl (by decide) _ _ _ rfl (HO.out.alloc _) ⟨wr.heap.size, 0, none⟩ 1 1 [.int .u8 ((s[k].toNat : Int) + 32)] rfl rfl (cell_one_new _ _ _) (by simp [Value.oneCell']) (by unfold maxLen; omega) (by omega) (by simp; omega) ?_)
        intro v' w1 hown' hgrow _
        have HR : Hid (w1.ownsRow w.heap.size 5 1 v' (k + 1) ((List.range (k + 1)).map fun j => Value.int .u8 (low (byteAt s j)))) := HL.out _ HX.out _ _ hown'
        have hbel := (hbr.alloc (by omega) _).grown hgrow (by simp; omega) (fun j hj => (HO.out.lt j hj).1)
        clear hown' hgrow
        go_wp2
        exact ⟨⟨k + 1, by omega, by go_num, HR.out, hbel⟩, by simp [intOf]; omega⟩
      · have hlow : low s[k].toNat = s[k].toNat := by unfold low; rw [if_neg hq]
        have HX : Hid (low s[k].toNat = s[k].toNat) := hlow
        clear hlow
        have hq' : (s[k].toNat : Int) < 65 ∨ 90 < (s[k].toNat : Int) := by omega
        clear hq
        rcases hq' with hq' | hq'
        all_goals
          go_wp2_with (at_builtin; refine wpList_append_own _ rfl _ _ 27 rfl w.heap.size 5 i0 (.int .u8 0) 1 1 Try.underlying27 hi hz0 hz1 hz2 rfl (by decide) _ _ _ rfl (HO.out.alloc _) ⟨wr.heap.size, 0, none⟩ 1 1 [.int .u8 (s[k].toNat : Int)] rfl rfl (cell_one_new _ _ _) (by simp [Value.oneCell']) (by unfold maxLen; omega) (by omega) (by simp; omega) ?_)
          intro v' w1 hown' hgrow _
          have HR : Hid (w1.ownsRow w.heap.size 5 1 v' (k + 1) ((List.range (k + 1)).map fun j => Value.int .u8 (low (byteAt s j)))) := HL.out _ HX.out _ _ hown'
          have hbel := (hbr.alloc (by omega) _).grown hgrow (by simp; omega) (fun j hj => (HO.out.lt j hj).1)
          clear hown' hgrow
          go_wp2
          exact ⟨⟨k + 1, by omega, by go_num, HR.out, hbel⟩, by simp [intOf]; omega⟩
    · have e : k = s.size := by omega
      subst e
      have hcv := string_own (P := Try.prog) 27 5 9 hown Try.underlying27 Try.underlying5 Try.underlying9
      go_wp2
      go_ret
      exact ⟨rfl, hbr⟩

/-- A byte as a letter of the other size is wanted: great. -/
def upp (b : Int) : Int := if 97 ≤ b ∧ b ≤ 122 then b - 32 else b
set_option maxHeartbeats 800000 in
theorem upp_any (s : ByteArray) (w : World) (hs : s.size ≤ 140737488351232) : Calls Try.prog 14 #[.string s] w fun e w' => e = .returned (.string (strOfNums ((List.range s.size).map fun j => upp (byteAt s j)))) ∧ Below w.heap.size w w' := by
  obtain ⟨c, W, hcv, hB, hbel, hsz⟩ := bytes_of (P := Try.prog) w 9 27 5 s Try.underlying9 Try.underlying27 Try.underlying5
  go_enter Try.func14, Try.ntmps14
  go_wp2_with fail
  clear hcv
  go_loopw [10] (fun i wr => ∃ k : Nat, k ≤ s.size ∧ i = .int .i64 k ∧ Bys wr w.heap.size s.size (fun j => if j < k then upp (byteAt s j) else byteAt s j) ∧ Below w.heap.size w wr) (fun i _ => s.size - (intOf i).toNat)
  case atStart => exact ⟨0, by omega, rfl, hB.congr (fun j _ => by simp), hbel⟩
  case round =>
    obtain ⟨k, hk, rfl, hBr, hbr⟩ := hrel
    by_cases hlt : k < s.size
    · obtain ⟨hc, hf⟩ := hBr k hlt
      dsimp only at hc
      rw [if_neg (by omega)] at hc
      have hl := byteAt_lt s k
      obtain ⟨b, HBk⟩ : ∃ b : Int, Hid ((byteAt s k : Int) = b) := ⟨_, rfl⟩
      have hb0 : 0 ≤ b := by have := HBk.out; omega
      have hb1 : b ≤ 255 := by have := HBk.out; omega
      rw [HBk.out] at hc
      have HR : Hid (Bys wr w.heap.size s.size (fun j => if j < k then upp (byteAt s j) else byteAt s j)) := hBr
      clear hBr hl
      by_cases hq : 97 ≤ b ∧ b ≤ 122
      · obtain ⟨hq1, hq2⟩ := hq
        go_wp2
        refine ⟨⟨k + 1, by omega, by go_num, ?_, hbr.setCell (by simp) _⟩, by simp [intOf]; omega⟩
        refine (HR.out.set k _).congr fun j _ => ?_
        by_cases e : j = k
        · subst e
          simp only [if_true, if_pos (Nat.lt_succ_self j)]
          rw [HBk.out]
          unfold upp
          rw [if_pos ⟨hq1, hq2⟩]
          omega
        · have h1 : (j < k + 1) = (j < k) := by apply propext; omega
          simp only [if_neg e, h1]
      · have hq' : b < 97 ∨ 122 < b := by omega
        have hstay : Bys wr w.heap.size s.size (fun j => if j < k + 1 then upp (byteAt s j) else byteAt s j) := by
          refine HR.out.congr fun j _ => ?_
          by_cases e : j = k
          · subst e
            rw [if_neg (Nat.lt_irrefl _), if_pos (Nat.lt_succ_self j), HBk.out]
            unfold upp
            rw [if_neg hq]
          · have h1 : (j < k + 1) = (j < k) := by apply propext; omega
            simp only [h1]
        have HS : Hid (Bys wr w.heap.size s.size (fun j => if j < k + 1 then upp (byteAt s j) else byteAt s j)) := hstay
        clear hstay hq
        rcases hq' with hq' | hq'
        all_goals
          go_wp2
          exact ⟨⟨k + 1, by omega, by go_num, HS.out, hbr⟩, by simp [intOf]; omega⟩
    · have e : k = s.size := by omega
      subst e
      have hcv := string_of (P := Try.prog) hBr 27 5 9 c Try.underlying27 Try.underlying5 Try.underlying9
      go_wp2
      go_ret
      refine ⟨congrArg (fun l => Ending.returned (.string (strOfNums l))) ?_, hbr⟩
      exact List.map_congr_left fun j hj => by rw [if_pos (List.mem_range.1 hj)]

set_option maxHeartbeats 800000 in
theorem rupp_any (s : ByteArray) (w : World) (hs : s.size ≤ 140737488351232) : Calls Try.prog 15 #[.string s] w fun e w' => e = .returned (.string (strOfNums ((List.range s.size).map fun j => upp (byteAt s j)))) ∧ Below w.heap.size w w' := by
  obtain ⟨i0, hi, hz0, hz1, hz2⟩ := info_parts info5
  go_enter Try.func15, Try.ntmps15
  go_wp2_with fail
  go_loopw [3, 4] (fun v i wr => ∃ k : Nat, k ≤ s.size ∧ i = .int .i64 k ∧ wr.ownsRow w.heap.size 5 1 v k ((List.range k).map fun j => Value.int .u8 (upp (byteAt s j))) ∧ Below w.heap.size w wr) (fun _ i _ => s.size - (intOf i).toNat)
  case atStart => exact ⟨0, by omega, rfl, owns_none _ _, (Below.refl _ _).alloc (by simp) _⟩
  case round =>
    obtain ⟨k, hk, rfl, hown, hbr⟩ := hrel
    by_cases hlt : k < s.size
    · have HBk : Hid (byteAt s k = s[k].toNat) := byteAt_eq s k hlt
      have hb1 : (s[k].toNat : Int) ≤ 255 := by have := UInt8.toNat_lt s[k]; omega
      have hsz := hbr.size
      have HO : Hid (wr.ownsRow w.heap.size 5 1 _ k ((List.range k).map fun j => Value.int .u8 (upp (byteAt s j)))) := hown
      clear hown
      have HL : Hid (∀ x : Int, upp s[k].toNat = x → ∀ (v' : Value) (w1 : World), w1.ownsRow w.heap.size 5 1 v' (k + 1) (((List.range k).map fun j => Value.int .u8 (upp (byteAt s j))) ++ [Value.int .u8 x]) → w1.ownsRow w.heap.size 5 1 v' (k + 1) ((List.range (k + 1)).map fun j => Value.int .u8 (upp (byteAt s j)))) := by
        intro x hx v' w1 h
        rw [List.range_succ, List.map_append, List.map_singleton, HBk.out, hx]
        exact h
      by_cases hq : 97 ≤ (s[k].toNat : Int) ∧ (s[k].toNat : Int) ≤ 122
      · have hlow : upp s[k].toNat = s[k].toNat - 32 := by unfold upp; rw [if_pos hq]
        have HX : Hid (upp s[k].toNat = s[k].toNat - 32) := hlow
        clear hlow
        obtain ⟨hq1, hq2⟩ := hq
        go_wp2_with (at_builtin; refine wpList_append_own _ rfl _ _ 27 rfl w.heap.size 5 i0 (.int .u8 0) 1 1 Try.underlying27 hi hz0 hz1 hz2 rfl (by decide) _ _ _ rfl (HO.out.alloc _) ⟨wr.heap.size, 0, none⟩ 1 1 [.int .u8 ((s[k].toNat : Int) - 32)] rfl rfl (cell_one_new _ _ _) (by simp [Value.oneCell']) (by unfold maxLen; omega) (by omega) (by simp; omega) ?_)
        intro v' w1 hown' hgrow _
        have HR : Hid (w1.ownsRow w.heap.size 5 1 v' (k + 1) ((List.range (k + 1)).map fun j => Value.int .u8 (upp (byteAt s j)))) := HL.out _ HX.out _ _ hown'
        have hbel := (hbr.alloc (by omega) _).grown hgrow (by simp; omega) (fun j hj => (HO.out.lt j hj).1)
        clear hown' hgrow
        go_wp2
        exact ⟨⟨k + 1, by omega, by go_num, HR.out, hbel⟩, by simp [intOf]; omega⟩
      · have hlow : upp s[k].toNat = s[k].toNat := by unfold upp; rw [if_neg hq]
        have HX : Hid (upp s[k].toNat = s[k].toNat) := hlow
        clear hlow
        have hq' : (s[k].toNat : Int) < 97 ∨ 122 < (s[k].toNat : Int) := by omega
        clear hq
        rcases hq' with hq' | hq'
        all_goals
          go_wp2_with (at_builtin; refine wpList_append_own _ rfl _ _ 27 rfl w.heap.size 5 i0 (.int .u8 0) 1 1 Try.underlying27 hi hz0 hz1 hz2 rfl (by decide) _ _ _ rfl (HO.out.alloc _) ⟨wr.heap.size, 0, none⟩ 1 1 [.int .u8 (s[k].toNat : Int)] rfl rfl (cell_one_new _ _ _) (by simp [Value.oneCell']) (by unfold maxLen; omega) (by omega) (by simp; omega) ?_)
          intro v' w1 hown' hgrow _
          have HR : Hid (w1.ownsRow w.heap.size 5 1 v' (k + 1) ((List.range (k + 1)).map fun j => Value.int .u8 (upp (byteAt s j)))) := HL.out _ HX.out _ _ hown'
          have hbel := (hbr.alloc (by omega) _).grown hgrow (by simp; omega) (fun j hj => (HO.out.lt j hj).1)
          clear hown' hgrow
          go_wp2
          exact ⟨⟨k + 1, by omega, by go_num, HR.out, hbel⟩, by simp [intOf]; omega⟩
    · have e : k = s.size := by omega
      subst e
      have hcv := string_own (P := Try.prog) 27 5 9 hown Try.underlying27 Try.underlying5 Try.underlying9
      go_wp2
      go_ret
      exact ⟨rfl, hbr⟩
end Go.Proofs.Ytgfgkhgohoaneaa
