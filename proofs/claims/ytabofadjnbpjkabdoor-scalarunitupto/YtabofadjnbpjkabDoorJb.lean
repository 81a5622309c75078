/-
  The contracts of unitCount, units, endsLine and line, and of what they call of the library. Conditions: the byte is one of the text.
-/
import Derived.Test.YtabofadjnbpjkabDoorJa
import Derived.Test.YtabofadjnbpjkabDoorFe
import Derived.Lib.Strings
namespace Go.Proofs.YtabofadjnbpjkabDoor
open Go.RowKit Go.Lib
theorem unitCount_any (r : Nat) (w : World) : Calls Tryd.prog 42 #[.int .i32 (r : Nat)] w fun e w' => e = .returned (.int .i64 (unR r : Nat)) ∧ w' = w := by
  by_cases h : 65535 < r
  · have d : decide ((r : Int) < 65536) = false := decide_eq_false (by omega)
    have e : unR r = 2 := by unfold unR; rw [if_pos h]
    rw [e]
    clear h e
    go_enter Tryd.func42, Tryd.ntmps42
    go_wp2
    go_ret
    exact ⟨rfl, rfl⟩
  · have d : decide ((r : Int) < 65536) = true := decide_eq_true (by omega)
    have e : unR r = 1 := by unfold unR; rw [if_neg h]
    rw [e]
    clear h e
    go_enter Tryd.func42, Tryd.ntmps42
    go_wp2
    go_ret
    exact ⟨rfl, rfl⟩
theorem runits_any1 (r : Nat) (w : World) : Calls Tryd.prog 45 #[.int .i32 (r : Nat)] w fun e w' => e = .returned (.int .i64 (unR r : Nat)) ∧ w' = w := by
  by_cases h : 65535 < r
  · have d : decide ((65535 : Int) < (r : Int)) = true := decide_eq_true (by omega)
    have e : unR r = 2 := by unfold unR; rw [if_pos h]
    rw [e]
    go_enter Tryd.func45, Tryd.ntmps45
    go_wp2
    go_ret
    exact ⟨rfl, rfl⟩
  · have d : decide ((65535 : Int) < (r : Int)) = false := decide_eq_false (by omega)
    have e : unR r = 1 := by unfold unR; rw [if_neg h]
    rw [e]
    go_enter Tryd.func45, Tryd.ntmps45
    go_wp2
    go_ret
    exact ⟨rfl, rfl⟩
theorem one_list (s : ByteArray) (k : Nat) (h : k < s.size) (c : UInt8) : ((s.extract k (k + 1)).toList == [c]) = (byt s k == c.toNat) := by
  have hb := byt_eq s k h
  have e : (s.extract k (k + 1)).toList = [s[k]] := by
    rw [ByteArray.toList_eq]
    have : (s.extract k (k + 1)).data = s.data.extract k (k + 1) := by simp
    rw [this]
    have hk : k < s.data.size := h
    simp [Array.toList_extract, List.extract, List.drop_eq_getElem_cons (i := k) (l := s.data.toList) (by simpa using hk)]
    rfl
  rw [e, ← hb]
  simp only [List.cons_beq_cons, beq_self_eq_true, Bool.and_true]
  by_cases q : s[k] = c
  · rw [q]; simp
  · rw [beq_false_of_ne q, beq_false_of_ne fun h => q (UInt8.toNat_inj.1 h)]
theorem pre_any (s : ByteArray) (w : World) : Calls Tryd.prog 61 #[.string s, .string ⟨#[10]⟩] w fun e w' => e = .returned (.bool (byt s 0 == 10)) ∧ w' = w := by
  by_cases h : 0 < s.size
  · have e1 : ((s.extract 0 1).toList == [10]) = (byt s 0 == 10) := (one_list s 0 h 10).trans rfl
    have hi : (1 : Int) ≤ (s.size : Int) := by omega
    clear h
    go_enter Tryd.func61, Tryd.ntmps61
    go_wp2
    go_ret
    exact ⟨rfl, rfl⟩
  · have hi : ¬ (1 : Int) ≤ (s.size : Int) := by omega
    have e1 : (byt s 0 == 10) = false := by rw [byt_out s 0 (by omega)]; rfl
    rw [e1]
    clear h
    go_enter Tryd.func61, Tryd.ntmps61
    go_wp2
    go_ret
    exact ⟨rfl, rfl⟩
theorem hpre_any (s : ByteArray) (w : World) : Calls Tryd.prog 56 #[.string s, .string ⟨#[10]⟩] w fun e w' => e = .returned (.bool (byt s 0 == 10)) ∧ w' = w := by
  have k := pre_any s w
  generalize (byt s 0 == 10) = B at *
  go_enter Tryd.func56, Tryd.ntmps56
  go_wp2_with (go_at_call 61; refine k.mono ?_; rintro e w' ⟨rfl, rfl⟩)
  go_ret
  exact ⟨rfl, rfl⟩
theorem ends_any (s : ByteArray) (k : Nat) (w : World) (hs : s.size ≤ 140737488351232) (hk : k < s.size) : Calls Tryd.prog 43 #[.string s, .int .i64 (k : Nat)] w fun e w' => e = .returned (.bool (eol s k)) ∧ w' = w := by
  have hb := byt_eq s k hk
  have hki : (k : Int) < (s.size : Int) := by omega
  have hl := byt_lt s k
  have kx := hpre_any (s.extract (k + 1) s.size) w
  rw [byt_tail] at kx
  obtain ⟨b, hbb⟩ : ∃ b, byt s k = b := ⟨_, rfl⟩
  have he : eol s k = (b == 10 || (b == 13 && !(byt s (k + 1) == 10))) := by unfold eol; rw [hbb]
  rw [he]
  rw [hbb] at hb hl
  have hk3 : ¬ s.size ≤ k := by omega
  simp only [Nat.add_zero] at kx
  clear hbb he
  generalize (byt s (k + 1) == 10) = B at *
  by_cases h1 : b = 10
  · subst h1
    go_enter Tryd.func43, Tryd.ntmps43
    go_wp2
    go_ret
    exact ⟨rfl, rfl⟩
  · have d1 : ((b : Int) == 10) = false := beq_false_of_ne (by omega)
    have d1' : (b == 10) = false := beq_false_of_ne h1
    by_cases h2 : b = 13
    · subst h2
      have hk1 : (k : Int) + 1 ≤ (s.size : Int) := by omega
      go_enter Tryd.func43, Tryd.ntmps43
      go_wp2_with (go_at_call 56; refine kx.mono ?_; rintro e w' ⟨rfl, rfl⟩)
      go_ret
      exact ⟨by simp, rfl⟩
    · have d2 : ((b : Int) == 13) = false := beq_false_of_ne (by omega)
      have d2' : (b == 13) = false := beq_false_of_ne h2
      rw [d1', d2']
      clear d1' d2' h1 h2 kx
      go_enter Tryd.func43, Tryd.ntmps43
      go_wp2
      go_ret
      exact ⟨rfl, rfl⟩
/-- A text without the byte 13 at its end. -/
def trm (s : ByteArray) : ByteArray := if 0 < s.size ∧ byt s (s.size - 1) = 13 then s.extract 0 (s.size - 1) else s
theorem suf_any (s : ByteArray) (w : World) (hs : s.size ≤ 140737488351232) : Calls Tryd.prog 64 #[.string s, .string ⟨#[13]⟩] w fun e w' => e = .returned (.bool (decide (0 < s.size ∧ byt s (s.size - 1) = 13))) ∧ w' = w := by
  by_cases h : 0 < s.size
  · obtain ⟨m, hm⟩ : ∃ m, s.size = m + 1 := ⟨s.size - 1, by omega⟩
    have e1 : ((s.extract m (m + 1)).toList == [13]) = (byt s m == 13) := (one_list s m (by omega) 13).trans rfl
    have e2 : decide (0 < s.size ∧ byt s (s.size - 1) = 13) = (byt s m == 13) := by
      rw [hm, Nat.add_sub_cancel]
      by_cases q : byt s m = 13
      · simp [q]
      · simp [q]
    rw [e2, ← e1]
    have hi : (1 : Int) ≤ (s.size : Int) := by omega
    have hz : (s.size : Int) - 1 = (m : Int) := by omega
    have hmi : (m : Int) ≤ (s.size : Int) := by omega
    have hmx : (m : Int) ≤ 140737488351232 := by omega
    have HM : Hid (s.size = m + 1) := hm
    clear h e1 e2 hm
    go_enter Tryd.func64, Tryd.ntmps64
    go_wp2
    go_ret
    exact ⟨by rw [HM.out]; rfl, rfl⟩
  · have hi : ¬ (1 : Int) ≤ (s.size : Int) := by omega
    have e2 : decide (0 < s.size ∧ byt s (s.size - 1) = 13) = false := decide_eq_false fun q => h q.1
    rw [e2]
    clear h e2
    go_enter Tryd.func64, Tryd.ntmps64
    go_wp2
    go_ret
    exact ⟨rfl, rfl⟩
theorem trim_any (s : ByteArray) (w : World) (hs : s.size ≤ 140737488351232) : Calls Tryd.prog 62 #[.string s, .string ⟨#[13]⟩] w fun e w' => e = .returned (.string (trm s)) ∧ w' = w := by
  have k := suf_any s w hs
  by_cases h : 0 < s.size ∧ byt s (s.size - 1) = 13
  · rw [decide_eq_true h] at k
    unfold trm
    rw [if_pos h]
    obtain ⟨m, hm⟩ : ∃ m, s.size = m + 1 := ⟨s.size - 1, by omega⟩
    have hz : (s.size : Int) - 1 = (m : Int) := by omega
    have hmi : (m : Int) ≤ (s.size : Int) := by omega
    have hmx : (m : Int) ≤ 140737488351232 := by omega
    have HM : Hid (s.size = m + 1) := hm
    clear h hm
    go_enter Tryd.func62, Tryd.ntmps62
    go_wp2_with (go_at_call 64; refine k.mono ?_; rintro e w' ⟨rfl, rfl⟩)
    go_ret
    exact ⟨by rw [HM.out, Nat.add_sub_cancel]; rfl, rfl⟩
  · rw [decide_eq_false h] at k
    unfold trm
    rw [if_neg h]
    clear h
    go_enter Tryd.func62, Tryd.ntmps62
    go_wp2_with (go_at_call 64; refine k.mono ?_; rintro e w' ⟨rfl, rfl⟩)
    go_ret
    exact ⟨rfl, rfl⟩
theorem trims_any (s : ByteArray) (w : World) (hs : s.size ≤ 140737488351232) : Calls Tryd.prog 57 #[.string s, .string ⟨#[13]⟩] w fun e w' => e = .returned (.string (trm s)) ∧ w' = w := by
  have k := trim_any s w hs
  generalize trm s = S at *
  go_enter Tryd.func57, Tryd.ntmps57
  go_wp2_with (go_at_call 62; refine k.mono ?_; rintro e w' ⟨rfl, rfl⟩)
  go_ret
  exact ⟨rfl, rfl⟩
theorem trm_size (s : ByteArray) : (trm s).size ≤ s.size := by
  unfold trm
  split
  · simp
  · exact Nat.le_refl _
theorem line_any (s : ByteArray) (w : World) (hs : s.size ≤ 140737488351232) : Calls Tryd.prog 46 #[.string s] w fun e w' => e = .returned (.string (trm s)) ∧ Below w.heap.size w w' := by
  have k := trims_any s w hs
  have k2 := clone_any (trm s) w (by have := trm_size s; omega)
  generalize trm s = S at *
  go_enter Tryd.func46, Tryd.ntmps46
  go_wp2_with (first | (go_at_call 57; refine k.mono ?_; rintro e w' ⟨rfl, rfl⟩) | (go_at_call 37; refine k2.mono ?_))
  first | rintro e w1 rfl b1 | rintro e w1 ⟨rfl, b1⟩
  go_wp2
  go_ret
  exact ⟨rfl, b1⟩
/-- The line from a place to a place, trimmed. -/
theorem trm_lne (s : ByteArray) (a b : Nat) (hb : b ≤ s.size) (hab : a ≤ b) : trm (s.extract a b) = lne s a b := by
  have hz : (s.extract a b).size = b - a := by simp; omega
  unfold trm lne
  rw [hz]
  by_cases h : a < b
  · have e : byt (s.extract a b) (b - a - 1) = byt s (b - 1) := by
      rw [byt_extract s a b _ hb (by omega), show a + (b - a - 1) = b - 1 by omega]
    rw [e]
    by_cases q : byt s (b - 1) = 13
    · rw [if_pos ⟨by omega, q⟩, if_pos ⟨h, q⟩]
      apply ByteArray.ext
      simp only [ByteArray.data_extract]
      rw [Array.extract_extract]
      congr 1
      omega
    · rw [if_neg fun c => q c.2, if_neg fun c => q c.2]
  · rw [if_neg fun c => by omega, if_neg fun c => h c.1]
end Go.Proofs.YtabofadjnbpjkabDoor
