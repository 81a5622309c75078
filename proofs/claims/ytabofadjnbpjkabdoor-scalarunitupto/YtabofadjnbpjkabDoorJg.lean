/-
  The contracts of the document's ended, PositionOf and Unit; Position of what is no place. Conditions: the text has at most 2^35 bytes.
-/
import Derived.Test.YtabofadjnbpjkabDoorJf
namespace Go.Proofs.YtabofadjnbpjkabDoor
open Go.RowKit Go.Lib
theorem pos_bad (s : ByteArray) (a : Int) (w : World) (_hs : s.size ≤ 35184372088000) (ha : a < 0 ∨ (s.size : Int) < a) : Calls Tryd.prog 24 #[.string s, .int .i64 a] w fun e W' => e = .returned (.tuple #[.agg zeC, .int .i64 21]) ∧ Below w.heap.size w W' := by
  have hb : Below w.heap.size w (((w.alloc (.cells #[.string s] 9)).alloc (.cells #[.int .i64 a] 3)).alloc (.cells #[.int .i64 0, .int .i64 0, .int .i64 0, .int .i64 0] 49)) := (((Below.refl _ w).alloc (Nat.le_refl _) _).alloc (by simp) _).alloc (by simp; omega) _
  by_cases h : a < 0
  · clear ha _hs
    go_enter Tryd.func24, Tryd.ntmps24
    go_wp2
    refine bodyPost_ret (v := .tuple #[.agg zeC, .int .i64 21]) ?_ rfl ⟨rfl, hb⟩
    unfold zeC
    simp [results, Tryd.results24, go_sem]
  · have h2 : (s.size : Int) < a := by omega
    clear ha _hs
    go_enter Tryd.func24, Tryd.ntmps24
    go_wp2
    refine bodyPost_ret (v := .tuple #[.agg zeC, .int .i64 21]) ?_ rfl ⟨rfl, hb⟩
    unfold zeC
    simp [results, Tryd.results24, go_sem]
theorem cnt_succ (s : ByteArray) (i : Nat) (h : eol s i = true) : cnt s (i + 1) = cnt s i + 1 ∧ lst s (i + 1) = i + 1 := by
  constructor
  · conv => lhs; unfold cnt
    rw [h]; rfl
  · conv => lhs; unfold lst
    rw [h]; rfl
theorem cnt_same (s : ByteArray) (i : Nat) (h : eol s i = false) : cnt s (i + 1) = cnt s i ∧ lst s (i + 1) = lst s i := by
  constructor
  · conv => lhs; unfold cnt
    rw [h]; rfl
  · conv => lhs; unfold lst
    rw [h]; rfl
set_option maxRecDepth 100000 in
set_option maxHeartbeats 2000000 in
theorem ended_any (s : ByteArray) (a : Nat) (w : World) (hs : s.size ≤ 35184372088000) (ha : a ≤ s.size) : Calls Tryd.prog 44 #[.string s, .int .i64 (a : Nat)] w fun e w' => e = .returned (.tuple #[.int .i64 (cnt s a : Nat), .int .i64 (lst s a : Nat)]) ∧ w' = w := by
  have HA : Hid (a ≤ s.size ∧ s.size ≤ 35184372088000) := ⟨ha, hs⟩
  have hai : (a : Int) ≤ 35184372088000 := by omega
  clear hs ha
  go_enter Tryd.func44, Tryd.ntmps44
  go_wp2_with fail
  go_loopw [6, 7, 8] (fun x y z wr => wr = w ∧ ∃ (i : Nat) (c l : Int), z = .int .i64 (i : Nat) ∧ x = .int .i64 c ∧ y = .int .i64 l ∧ i ≤ a ∧ Hid (c = cnt s i ∧ l = lst s i)) (fun _ _ z _ => a - (RowKit.intOf z).toNat)
  case atStart => exact ⟨rfl, 0, 0, 0, rfl, rfl, rfl, Nat.zero_le _, rfl, rfl⟩
  case round =>
    obtain ⟨rfl, i, c, l, rfl, rfl, rfl, hi, hcl⟩ := hrel
    have hc0 : 0 ≤ c := by rw [hcl.out.1]; omega
    have hc1 : c ≤ 35184372088000 := by
      have h1 := hcl.out.1
      have h2 := cnt_le s i
      have h3 := HA.out
      omega
    by_cases hlt : i < a
    · have hlti : (i : Int) < (a : Int) := by omega
      have his : i < s.size := by have := HA.out; omega
      have hisi : (i : Int) < (s.size : Int) := by omega
      have hn1 : ¬ s.size ≤ i := by omega
      have hb := byt_eq s i his
      have hbl := byt_lt s i
      obtain ⟨b, hbb⟩ : ∃ b, byt s i = b := ⟨_, rfl⟩
      rw [hbb] at hb hbl
      have hii : (i : Int) ≤ 35184372088000 := by omega
      by_cases h1 : b = 10
      · subst h1
        have he : eol s i = true := by unfold eol; rw [hbb]; rfl
        clear hbb
        go_wp2
        refine ⟨⟨trivial, i + 1, c + 1, (i : Int) + 1, ?_, rfl, rfl, ?_, ?_⟩, ?_⟩
        · go_num
        · omega
        · have h1 := hcl.out; have h2 := cnt_succ s i he; unfold Hid; omega
        · simp [RowKit.intOf]; omega
      · have d1 : ((b : Int) == 10) = false := beq_false_of_ne (by omega)
        by_cases h2 : b = 13
        · subst h2
          by_cases h3 : s.size ≤ i + 1
          · have he : eol s i = true := by unfold eol; rw [hbb, byt_out s _ h3]; rfl
            have h3i : (s.size : Int) ≤ (i : Int) + 1 := by omega
            clear hbb d1 h1
            go_wp2
            refine ⟨⟨trivial, i + 1, c + 1, (i : Int) + 1, ?_, rfl, rfl, ?_, ?_⟩, ?_⟩
            · go_num
            · omega
            · have h1 := hcl.out; have h2 := cnt_succ s i he; unfold Hid; omega
            · simp [RowKit.intOf]; omega
          · have h3i : ¬ (s.size : Int) ≤ (i : Int) + 1 := by omega
            have h3j : (i : Int) + 1 < (s.size : Int) := by omega
            have hb2 := byt_eq s (i + 1) (by omega)
            have hbl2 := byt_lt s (i + 1)
            obtain ⟨b2, hbb2⟩ : ∃ b2, byt s (i + 1) = b2 := ⟨_, rfl⟩
            rw [hbb2] at hb2 hbl2
            have hn2 : ¬ s.size ≤ i + 1 := h3
            by_cases h4 : b2 = 10
            · subst h4
              have he : eol s i = false := by unfold eol; rw [hbb, hbb2]; rfl
              clear hbb hbb2 d1 h1
              go_wp2
              refine ⟨⟨trivial, i + 1, c, l, ?_, rfl, rfl, ?_, ?_⟩, ?_⟩
              · go_num
              · omega
              · have h1 := hcl.out; have h2 := cnt_same s i he; unfold Hid; omega
              · simp [RowKit.intOf]; omega
            · have d4 : ((b2 : Int) != 10) = true := by simp; omega
              have he : eol s i = true := by unfold eol; rw [hbb, hbb2]; simp [h4]
              clear hbb hbb2 d1 h1 h4
              go_wp2
              refine ⟨⟨trivial, i + 1, c + 1, (i : Int) + 1, ?_, rfl, rfl, ?_, ?_⟩, ?_⟩
              · go_num
              · omega
              · have h1 := hcl.out; have h2 := cnt_succ s i he; unfold Hid; omega
              · simp [RowKit.intOf]; omega
        · have d2 : ((b : Int) == 13) = false := beq_false_of_ne (by omega)
          have he : eol s i = false := by unfold eol; rw [hbb]; simp [h1, h2]
          clear hbb h1 h2
          go_wp2
          refine ⟨⟨trivial, i + 1, c, l, ?_, rfl, rfl, ?_, ?_⟩, ?_⟩
          · go_num
          · omega
          · have h1 := hcl.out; have h2 := cnt_same s i he; unfold Hid; omega
          · simp [RowKit.intOf]; omega
    · have hlti : ¬ (i : Int) < (a : Int) := by omega
      have hie : i = a := by omega
      subst hie
      go_wp2
      refine bodyPost_ret (v := .tuple #[.int .i64 c, .int .i64 l]) ?_ rfl ⟨by rw [hcl.out.1, hcl.out.2], rfl⟩
      simp [results, Tryd.results44, go_sem]

/-- How many pieces of a row stand at a place or behind it. -/
def coR (l : List Nat) (last : Nat) : Nat := (l.filter fun k => decide (last ≤ k)).length
theorem coR_app (l : List Nat) (k last : Nat) : coR (l ++ [k]) last = if last ≤ k then coR l last + 1 else coR l last := by
  unfold coR
  rw [List.filter_append]
  by_cases h : last ≤ k
  · simp [h]
  · simp [h]
theorem coR_le (l : List Nat) (last : Nat) : coR l last ≤ l.length := List.length_filter_le _ _
end Go.Proofs.YtabofadjnbpjkabDoor
