/-
  The contracts of fault, Over and Build. Conditions: the rows' numbers fit; the table's numbers are from 0 to 65535.
-/
import Derived.Test.YtookbgmolggohaaLy
namespace Go.Proofs.Ytookbgmolggohaa
open Go.RowKit
theorem chkF_step {L : List Rw} {k : Nat} (hk : k < L.length) (l : Int) : chkF k l (L.drop k) = if badB l (L.getD k (0, 0, 0)) = true then (k, 80) else if offB (L.getD k (0, 0, 0)).2.2 = true then (k, 81) else chkF (k + 1) ((L.getD k (0, 0, 0)).2.1 + 1) (L.drop (k + 1)) := by
  rw [List.drop_eq_getElem_cons hk]
  have e1 : L.getD k (0, 0, 0) = L[k] := by simp [List.getD, hk]
  rw [e1]
  rfl
theorem fit_get {L : List Rw} {k : Nat} (h : fit3 L) (hk : k < L.length) : -2147483648 ≤ (L.getD k (0, 0, 0)).1 ∧ (L.getD k (0, 0, 0)).1 ≤ 2147483647 ∧ -2147483648 ≤ (L.getD k (0, 0, 0)).2.1 ∧ (L.getD k (0, 0, 0)).2.1 ≤ 2147483647 ∧ -9223372036854775808 ≤ (L.getD k (0, 0, 0)).2.2 ∧ (L.getD k (0, 0, 0)).2.2 ≤ 9223372036854775807 := by
  have e1 : L.getD k (0, 0, 0) = L[k] := by simp [List.getD, hk]
  rw [e1]
  exact h _ (List.getElem_mem hk)
theorem point_no (y : Int) (w : World) (h : 1114111 < y) : Calls Try.prog 35 #[.int .i32 y] w fun e w' => e = .returned (.bool false) ∧ Below w.heap.size w w' := by
  have := point_any y w
  rwa [decide_eq_false (p := y ≤ 1114111) (by omega), Bool.and_false] at this
theorem point_yes (y : Int) (w : World) (h : 0 ≤ y ∧ y ≤ 1114111) : Calls Try.prog 35 #[.int .i32 y] w fun e w' => e = .returned (.bool true) ∧ Below w.heap.size w w' := by
  have := point_any y w
  rwa [decide_eq_true h.1, decide_eq_true h.2, Bool.and_true] at this
theorem number_is (y : Int) (w : World) : Calls Try.prog 54 #[.int .i64 y] w fun e w' => e = .returned (.bool (!offB y)) ∧ Below w.heap.size w w' := by
  have := number_any y w
  have e : (decide (0 ≤ y) && decide (y ≤ 65535)) = !offB y := by
    unfold offB
    by_cases h1 : 0 ≤ y
    · by_cases h2 : y ≤ 65535
      · rw [decide_eq_true h1, decide_eq_true h2, decide_eq_false (p := y < 0) (by omega), decide_eq_false (p := 65535 < y) (by omega)]; rfl
      · rw [decide_eq_false h2, decide_eq_true (p := 65535 < y) (by omega)]; simp
    · rw [decide_eq_false h1, decide_eq_true (p := y < 0) (by omega)]; simp
  rwa [e] at this
set_option maxRecDepth 100000 in
set_option maxHeartbeats 1000000 in
theorem fault_long (L : List Rw) (v : Value) (w : World) (hr : Rd3 .i32 w v L) (hl : 65536 < L.length) : Calls Try.prog 36 #[v] w fun e w' => e = .returned (.tuple #[.int .i64 65536, .int .i64 80]) ∧ Below w.heap.size w w' := by
  obtain ⟨a, c, rfl, hlc, -⟩ := hr
  have hd : decide ((65536 : Int) < (L.length : Int)) = true := decide_eq_true (by omega)
  clear hl hlc
  go_enter Try.func36, Try.ntmps36
  go_wp2
  go_ret2
  exact ⟨rfl, Below.refl _ _⟩
set_option maxRecDepth 100000 in
set_option maxHeartbeats 2000000 in
theorem fault_short (L : List Rw) (v : Value) (w : World) (hr : Rd3 .i32 w v L) (hf : fit3 L) (hl : L.length ≤ 65536) : Calls Try.prog 36 #[v] w fun e w' => e = .returned (.tuple #[.int .i64 ((chkF 0 0 L).1 : Nat), .int .i64 (chkF 0 0 L).2]) ∧ Below w.heap.size w w' := by
  obtain ⟨a, c, rfl, hlc, hc⟩ := hr
  have hd : decide ((65536 : Int) < (L.length : Int)) = false := decide_eq_false (by omega)
  have HC : Hid _ := hc
  have HF : Hid (fit3 L) := hf
  clear hc hlc hf
  go_enter Try.func36, Try.ntmps36
  go_wp2_with fail
  clear hd
  go_loopw [4, 12] (fun x y wr => ∃ (k : Nat) (l : Int), k ≤ L.length ∧ x = .int .i32 l ∧ y = .int .i64 (k : Nat) ∧ 0 ≤ l ∧ l ≤ 1114112 ∧ Hid (chkF k l (L.drop k) = chkF 0 0 L) ∧ Hid (Below w.heap.size w wr)) (fun _ y _ => (L.length - (intOf y).toNat : Nat))
  case atStart => exact ⟨0, 0, Nat.zero_le _, rfl, rfl, by omega, by omega, rfl, Below.refl _ _⟩
  case round =>
    obtain ⟨k, l, hk, rfl, rfl, l0, l1, hS, hB⟩ := hrel
    by_cases hkl : k < L.length
    · obtain ⟨g, off, rfl, hd⟩ := HC.out (by omega)
      obtain ⟨d1, d2, d3⟩ := hd k hkl
      have kl : (k : Int) < (L.length : Int) := by omega
      have g1 := World.block_lt_of_cell? w _ d1
      have e1 := (hB.out.cell (p := ⟨g, off + k * 3, none⟩) (by simpa using g1)).trans d1
      have e2 := (hB.out.cell (p := ⟨g, off + k * 3 + 1, none⟩) (by simpa using g1)).trans d2
      have e3 := (hB.out.cell (p := ⟨g, off + k * 3 + 2, none⟩) (by simpa using g1)).trans d3
      obtain ⟨f1, f2, f3, f4, f5, f6⟩ := fit_get HF.out hkl
      have hst : Hid (chkF 0 0 L = if badB l (L.getD k (0, 0, 0)) = true then (k, 80) else if offB (L.getD k (0, 0, 0)).2.2 = true then (k, 81) else chkF (k + 1) ((L.getD k (0, 0, 0)).2.1 + 1) (L.drop (k + 1))) := by rw [Hid, ← hS.out]; exact chkF_step hkl l
      clear d1 d2 d3 hd g1 HC HF hS
      generalize L.getD k (0, 0, 0) = s at *
      obtain ⟨x, y, n⟩ := s
      simp only at e1 e2 e3 f1 f2 f3 f4 f5 f6 hst
      have hbsz := hB.out.size
      obtain ⟨q1, q2, q3⟩ := box3 wr (.int .i32 x) (.int .i32 y) (.int .i64 n) 62
      have B1 : Hid (Below w.heap.size w (wr.alloc (.cells #[.int .i32 x, .int .i32 y, .int .i64 n] 62))) := hB.out.alloc hbsz _
      by_cases c1 : x < l
      · have hd1 : decide (x < l) = true := decide_eq_true c1
        have hres : Hid (chkF 0 0 L = (k, 80)) := by rw [Hid, hst.out, if_pos (by unfold badB; simp only; rw [hd1]; rfl)]
        go_wp2
        go_ret2
        exact ⟨by rw [hres.out]; rfl, B1.out⟩
      · have hd1 : decide (x < l) = false := decide_eq_false c1
        by_cases c2 : y < x
        · have hd2 : decide (y < x) = true := decide_eq_true c2
          have hres : Hid (chkF 0 0 L = (k, 80)) := by rw [Hid, hst.out, if_pos (by unfold badB; simp only; rw [hd2]; simp)]
          go_wp2
          go_ret2
          exact ⟨by rw [hres.out]; rfl, B1.out⟩
        · have hd2 : decide (y < x) = false := decide_eq_false c2
          by_cases c3 : 1114111 < y
          · have hres : Hid (chkF 0 0 L = (k, 80)) := by rw [Hid, hst.out, if_pos (by unfold badB; simp only; rw [decide_eq_true c3]; simp)]
            go_wp2_with (go_at_call 35; refine (point_no y _ c3).mono ?_)
            intro e w2 hq
            first | (obtain ⟨rfl, b2⟩ : _ ∧ _ := hq) | (subst hq; intro b2)
            go_wp2
            go_ret2
            exact ⟨by rw [hres.out]; rfl, B1.out.trans (b2.mono (by omega))⟩
          · have hbad : badB l (x, y, n) = false := bad_false.2 ⟨by simp only; omega, by simp only; omega, by simp only; omega⟩
            rw [hbad] at hst
            have B1z := B1.out.size
            go_wp2_with (go_at_call 35; refine (point_yes y _ ⟨by omega, by omega⟩).mono ?_)
            intro e w2 hq
            first | (obtain ⟨rfl, b2⟩ : _ ∧ _ := hq) | (subst hq; intro b2)
            have r2 := (b2.cell (p := ⟨wr.heap.size, 1, none⟩) (by simp)).trans q2
            have r3 := (b2.cell (p := ⟨wr.heap.size, 2, none⟩) (by simp)).trans q3
            have B2 : Hid (Below w.heap.size w w2) := B1.out.trans (b2.mono (by omega))
            clear b2 B1 B1z q1 q2 q3 e1 e2 e3
            go_wp2_with (go_at_call 54; refine (number_is n _).mono ?_)
            intro e w3 hq
            first | (obtain ⟨rfl, b3⟩ : _ ∧ _ := hq) | (subst hq; intro b3)
            have s2 := (b3.cell (p := ⟨wr.heap.size, 1, none⟩) (World.block_lt_of_cell? w2 _ r2)).trans r2
            have B3 : Hid (Below w.heap.size w w3) := B2.out.trans (b3.mono B2.out.size)
            clear b3 B2 r2 r3
            cases ho : offB n
            · rw [ho] at hst
              have hres : Hid (chkF (k + 1) (y + 1) (L.drop (k + 1)) = chkF 0 0 L) := by rw [Hid, hst.out]; rfl
              have wy : IntKind.i32.wrap (y + 1) = y + 1 := IntWalk.i32_in _ (by omega)
              clear hst
              go_wp2
              refine ⟨⟨k + 1, y + 1, by omega, by first | rfl | go_num, by go_num, by omega, by omega, hres, B3⟩, by simp [intOf]; omega⟩
            · rw [ho] at hst
              have hres : Hid (chkF 0 0 L = (k, 81)) := by rw [Hid, hst.out]; rfl
              clear hst
              go_wp2
              go_ret2
              exact ⟨by rw [hres.out]; rfl, B3.out⟩
    · have hkk : k = L.length := by omega
      subst hkk
      have hres : Hid (chkF 0 0 L = (0, 0)) := by
        have := hS.out
        rw [List.drop_length] at this
        exact this.symm
      go_wp2
      go_ret2
      exact ⟨by rw [hres.out]; rfl, hB.out⟩
theorem fault_any (L : List Rw) (v : Value) (w : World) (hr : Rd3 .i32 w v L) (hf : fit3 L) : Calls Try.prog 36 #[v] w fun e w' => e = .returned (.tuple #[.int .i64 ((chk L).1 : Nat), .int .i64 (chk L).2]) ∧ Below w.heap.size w w' := by
  unfold chk
  by_cases hl : 65536 < L.length
  · rw [if_pos hl]; exact fault_long L v w hr hl
  · rw [if_neg hl]; exact fault_short L v w hr hf (by omega)
theorem over_bad (L : List Rw) (v vt : Value) (w : World) (hr : Rd3 .i32 w v L) (hf : fit3 L) (h : (chk L).2 ≠ 0) : Calls Try.prog 14 #[vt, v] w fun e w' => e = .returned (.tuple #[.pointer none, .int .i64 ((chk L).1 : Nat), .int .i64 (chk L).2]) ∧ Below w.heap.size w w' := by
  have K := fault_any L v w hr hf
  generalize chk L = x at *
  obtain ⟨p, e⟩ := x
  have hne : (e == 0) = false := by simpa using h
  clear h hr
  go_enter Try.func14, Try.ntmps14
  go_wp2_with (go_at_call 36; refine K.mono ?_)
  intro e1 w1 hq
  first | (obtain ⟨rfl, b1⟩ : _ ∧ _ := hq) | (subst hq; intro b1)
  clear K
  go_wp2
  go_ret3
  exact ⟨rfl, b1⟩
theorem over_good (L : List Rw) (F : Int → Int) (v vt : Value) (w : World) (hr : Rd3 .i32 w v L) (hf : fit3 L) (h : (chk L).2 = 0) (hT : Tab w vt F) (hF : ∀ p, 0 ≤ F p ∧ F p ≤ 65535) : Calls Try.prog 14 #[vt, v] w fun e w' => ∃ T, e = .returned (.tuple #[.pointer (some ⟨T, 0, none⟩), .int .i64 0, .int .i64 0]) ∧ TabAt w' T (over F L) ∧ Below w.heap.size w w' := by
  obtain ⟨h1, h2, h3⟩ := chk_ok h
  have K := fault_any L v w hr hf
  rw [h3] at K
  simp only at K
  have KL : Hid (∀ w1, Below w.heap.size w w1 → Calls Try.prog 37 #[vt, v] w1 fun e w' => ∃ T, e = .returned (.pointer (some ⟨T, 0, none⟩)) ∧ TabAt w' T (over F L) ∧ Below w1.heap.size w1 w') := fun w1 b1 => laid_any L F v vt w1 (hr.below b1) (hT.below b1) h2 hF
  clear h h1 h2 h3 hr hT
  go_enter Try.func14, Try.ntmps14
  go_wp2_with (go_at_call 36; refine K.mono ?_)
  intro e1 w1 hq
  first | (obtain ⟨rfl, b1⟩ : _ ∧ _ := hq) | (subst hq; intro b1)
  clear K
  go_wp2_with (go_at_call 37; refine (KL.out _ b1).mono ?_)
  rintro e w2 ⟨T, rfl, t2, b2⟩
  go_wp2
  go_ret3
  exact ⟨T, rfl, t2, b1.trans (b2.mono b1.size)⟩
theorem nought_range : ∀ p, 0 ≤ nought p ∧ nought p ≤ 65535 := fun p => by unfold nought; omega
theorem build_bad (L : List Rw) (v : Value) (w : World) (hr : Rd3 .i32 w v L) (hf : fit3 L) (h : (chk L).2 ≠ 0) : Calls Try.prog 27 #[v] w fun e w' => e = .returned (.tuple #[.pointer none, .int .i64 ((chk L).1 : Nat), .int .i64 (chk L).2]) ∧ Below w.heap.size w w' := by
  have K := over_bad L v (.pointer none) w hr hf h
  generalize chk L = x at *
  clear h hr
  go_enter Try.func27, Try.ntmps27
  go_wp2_with (go_at_call 14; refine K.mono ?_)
  intro e1 w1 hq
  first | (obtain ⟨rfl, b1⟩ : _ ∧ _ := hq) | (subst hq; intro b1)
  clear K
  go_wp2
  go_ret3
  exact ⟨rfl, b1⟩
theorem build_good (L : List Rw) (v : Value) (w : World) (hr : Rd3 .i32 w v L) (hf : fit3 L) (h : (chk L).2 = 0) : Calls Try.prog 27 #[v] w fun e w' => ∃ T, e = .returned (.tuple #[.pointer (some ⟨T, 0, none⟩), .int .i64 0, .int .i64 0]) ∧ TabAt w' T (lk L) ∧ Below w.heap.size w w' := by
  have K := over_good L nought v (.pointer none) w hr hf h (.inl ⟨rfl, rfl⟩) nought_range
  clear h hr
  go_enter Try.func27, Try.ntmps27
  go_wp2_with (go_at_call 14; refine K.mono ?_)
  rintro e1 w1 ⟨T, rfl, t1, b1⟩
  clear K
  go_wp2
  go_ret3
  exact ⟨T, rfl, t1, b1⟩
end Go.Proofs.Ytookbgmolggohaa
