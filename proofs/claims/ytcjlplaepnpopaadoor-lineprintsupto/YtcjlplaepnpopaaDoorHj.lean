/-
  The document's Print.
-/
import Derived.Test.YtcjlplaepnpopaaDoorHi
import Derived.LoopN
import Derived.OwnWalk
import Derived.WalkSmall
import Derived.BigQuiet
import Derived.Deep.QuietTactic
import Derived.KernelRfl
namespace Go.Proofs.YtcjlplaepnpopaaDoor
open Go.RowKit
theorem bare_same (s : ByteArray) : ((bareT s).toList == s.toList) = okE s := by
  rw [same_text, Bool.eq_iff_iff, decide_eq_true_iff]
  exact bare_is s
theorem bare_diff (s : ByteArray) : ((bareT s).toList != s.toList) = !okE s := by
  rw [← bare_same s]; rfl
theorem mayB_note {L : List ByteArray} {note : ByteArray} (h : lwB note none2 = false) : mayB L note = false := by
  unfold mayB
  rw [h, Bool.and_false, Bool.and_false]
theorem prA_no {L : List ByteArray} {note : ByteArray} (h : mayB L note = false) : prA L note = .returned (.tuple #[.string ⟨#[]⟩, .int .i64 1]) := by
  unfold prA; rw [h]; rfl
theorem prA_yes {L : List ByteArray} {note : ByteArray} (h : mayB L note = true) : prA L note = .returned (.tuple #[.string (prT L note), .int .i64 0]) := by
  unfold prA; rw [h]; rfl
set_option maxRecDepth 100000 in
set_option maxHeartbeats 2000000 in
theorem rprint_any (num : Int) (v : Value) (L : List ByteArray) (note : ByteArray) (w : World) (hv : RdT w v L) (hL : L.length ≤ 2000000) (hs : ∀ x ∈ L, x.size ≤ 2000000) (hn : note.size < 4294967281) :
    Calls Tryd.prog 15 #[.agg #[.int .i64 num, v, .string note]] w fun e w' => e = prA L note ∧ Hid (Below w.heap.size w w') := by
  obtain ⟨a, c, rfl, hle, hc⟩ := hv
  have hB1 : Hid (Below w.heap.size w (w.alloc (.cells #[.int .i64 num, .slice a L.length c, .string note] 53))) := (Below.refl _ _).alloc (Nat.le_refl _) _
  have kh : ∀ w, Calls Tryd.prog 28 #[.string note, .string ⟨#[10, 13]⟩] w fun e w' => e = .returned (.bool (hasB note none2)) ∧ ∃ m, w' = w.drewN m := fun w => has_any note none2 w (by omega) (by decide)
  have kb : ∀ w, Calls Tryd.prog 29 #[.string note] w fun e w' => e = .returned (.string (bareT note)) ∧ w' = w := fun w => bare_any note w (by omega)
  have hst := bare_same note
  have hst2 := bare_diff note
  by_cases h0 : L.length = 0
  · have HR : Hid (prA L note = .returned (.tuple #[.string ⟨#[]⟩, .int .i64 1])) := prA_no (by unfold mayB emL1; rw [decide_eq_true h0]; rfl)
    rw [h0] at hB1 ⊢
    clear kh kb hst hst2
    go_enter Tryd.func15, Tryd.ntmps15
    go_wp2
    go_quiet (fail)
    go_wp2
    exact bodyPost_ret (v := .tuple #[.string ⟨#[]⟩, .int .i64 1]) (by simp [results, Tryd.results15, go_sem]) rfl ⟨by rw [HR.out], below_drewN hB1.out _⟩
  · obtain ⟨g, off, rfl, hd⟩ := hc (by omega)
    have hg : g < w.heap.size := by simpa using World.block_lt_of_cell? w _ (hd 0 (by omega))
    have HD : Hid (∀ j, j < L.length → w.cell? ⟨g, off + j, none⟩ = some (.string (L.getD j ⟨#[]⟩))) := hd
    have HS : Hid (∀ x ∈ L, x.size ≤ 2000000) := hs
    have y0 := hd 0 (by omega)
    rw [Nat.add_zero] at y0
    have y0' : (w.alloc (.cells #[.int .i64 num, .slice (some ⟨g, off, none⟩) L.length c, .string note] 53)).cell? ⟨g, off, none⟩ = some (.string (L.getD 0 ⟨#[]⟩)) := by
      rw [← y0]
      exact hB1.out.cell (p := ⟨g, off, none⟩) hg
    by_cases h1 : L.length = 1 ∧ (L.getD 0 ⟨#[]⟩).size = 0
    · have HR : Hid (prA L note = .returned (.tuple #[.string ⟨#[]⟩, .int .i64 1])) := prA_no (by unfold mayB emL1; rw [decide_eq_true h1.1, decide_eq_true h1.2]; simp)
      obtain ⟨X, eX⟩ : ∃ X, L.getD 0 ⟨#[]⟩ = X := ⟨_, rfl⟩
      rw [eX] at y0' h1
      have e1 := toList_nil X
      have e2 := empty_is X
      rw [decide_eq_true h1.2] at e1 e2
      rw [h1.1] at hB1 y0' hle ⊢
      clear hd hs hc y0 kh kb hst hst2
      go_enter Tryd.func15, Tryd.ntmps15
      go_wp2
      go_quiet (fail)
      go_wp2
      exact bodyPost_ret (v := .tuple #[.string ⟨#[]⟩, .int .i64 1]) (by simp [results, Tryd.results15, go_sem]) rfl ⟨by rw [HR.out], below_drewN hB1.out _⟩
    · have HM : Hid (emL1 L = false) := by
        unfold Hid emL1
        rw [Bool.or_eq_false_iff, Bool.and_eq_false_iff, decide_eq_false_iff_not, decide_eq_false_iff_not, decide_eq_false_iff_not]
        exact ⟨h0, by by_cases q : L.length = 1
                      · exact .inr fun h => h1 ⟨q, h⟩
                      · exact .inl q⟩
      obtain ⟨N, eN⟩ : ∃ N, L.length = N := ⟨_, rfl⟩
      have HN : Hid (L.length = N) := eN
      rw [eN] at hB1 y0' hle hL h0 h1 ⊢
      have HB1 : Hid (Below w.heap.size w (w.alloc (.cells #[.int .i64 num, .slice (some ⟨g, off, none⟩) N c, .string note] 53))) := hB1
      obtain ⟨B, eB⟩ : ∃ B, bareT note = B := ⟨_, rfl⟩
      rw [eB] at hst hst2
      simp only [eB] at kb
      obtain ⟨hb, ehb⟩ : ∃ b, hasB note none2 = b := ⟨_, rfl⟩
      simp only [ehb] at kh
      obtain ⟨ok, eok⟩ : ∃ b, okE note = b := ⟨_, rfl⟩
      rw [eok] at hst hst2
      have HL : Hid (lwB note none2 = (!hb && ok)) := by unfold Hid lwB; rw [ehb, eok]
      clear hd hs hc y0 eN hB1 eB ehb eok
      by_cases h2 : N = 1
      · have hX : ¬ (L.getD 0 ⟨#[]⟩).size = 0 := fun h => h1 ⟨h2, h⟩
        obtain ⟨X0, eX⟩ : ∃ X, L.getD 0 ⟨#[]⟩ = X := ⟨_, rfl⟩
        rw [eX] at y0' hX
        have e1 := toList_nil X0
        have e2 := empty_is X0
        rw [decide_eq_false hX] at e1 e2
        subst h2
        clear h1 eX hX h0
        go_enter Tryd.func15, Tryd.ntmps15
        cases hb with
        | true =>
          have HR : Hid (prA L note = .returned (.tuple #[.string ⟨#[]⟩, .int .i64 1])) := prA_no (mayB_note (by rw [HL.out]; rfl))
          go_wp2
          go_quiet (first | (go_at_call 28; refine (kh _).mono ?_; rintro e w' ⟨rfl, m, rfl⟩; exact ⟨rfl, _, World.drewN_drewN _ _ _⟩) | (go_at_call 29; refine (kb _).mono ?_; rintro e w' ⟨rfl, rfl⟩; exact ⟨rfl, _, rfl⟩))
          go_wp2
          exact bodyPost_ret (v := .tuple #[.string ⟨#[]⟩, .int .i64 1]) (by simp [results, Tryd.results15, go_sem]) rfl ⟨by rw [HR.out], below_drewN HB1.out _⟩
        | false =>
          cases ok with
          | false =>
            have HR : Hid (prA L note = .returned (.tuple #[.string ⟨#[]⟩, .int .i64 1])) := prA_no (mayB_note (by rw [HL.out]; rfl))
            go_wp2
            go_quiet (first | (go_at_call 28; refine (kh _).mono ?_; rintro e w' ⟨rfl, m, rfl⟩; exact ⟨rfl, _, World.drewN_drewN _ _ _⟩) | (go_at_call 29; refine (kb _).mono ?_; rintro e w' ⟨rfl, rfl⟩; exact ⟨rfl, _, rfl⟩))
            go_wp2
            exact bodyPost_ret (v := .tuple #[.string ⟨#[]⟩, .int .i64 1]) (by simp [results, Tryd.results15, go_sem]) rfl ⟨by rw [HR.out], below_drewN HB1.out _⟩
          | true =>
            go_wp2
            go_quiet (first | (go_at_call 28; refine (kh _).mono ?_; rintro e w' ⟨rfl, m, rfl⟩; exact ⟨rfl, _, World.drewN_drewN _ _ _⟩) | (go_at_call 29; refine (kb _).mono ?_; rintro e w' ⟨rfl, rfl⟩; exact ⟨rfl, _, rfl⟩))
            go_wp2
            clear kh kb hst hst2 y0' e1 e2
            go_loopw [4, 5, 6] (fun o x _ wr => ∃ k : Nat, x = .int .i64 (k : Int) ∧ k ≤ 1 ∧ o = .string (jn L k) ∧ Hid (allK L k = true) ∧ Hid (Below (w.heap.size + 1) (w.alloc (.cells #[.int .i64 num, .slice (some ⟨g, off, none⟩) 1 c, .string note] 53)) wr)) (fun _ x _ _ => 1 - (RowKit.intOf x).toNat)
            case atStart => exact ⟨0, rfl, Nat.zero_le _, rfl, rfl, below_drewN (Below.refl _ _) _⟩
            case round =>
              obtain ⟨wo, hwo⟩ : ∃ wo, wr = wo := ⟨_, rfl⟩
              rw [hwo] at hrel ⊢
              clear hwo
              obtain ⟨k, rfl, hk, ho, hA, hB⟩ := hrel
              have kB : Hid (∀ w2, Below wo.heap.size wo w2 → Below w.heap.size w w2) := fun w2 h => HB1.out.trans (hB.out.mono (by omega) |>.trans (h.mono (by have h3 := hB.out.size; have h4 : (w.alloc (.cells #[.int .i64 num, .slice (some ⟨g, off, none⟩) 1 c, .string note] 53)).heap.size = w.heap.size + 1 := World.size_alloc _ _; omega)))
              have y3 : wo.cell? ⟨w.heap.size, 1, none⟩ = some (.slice (some ⟨g, off, none⟩) 1 c) := (hB.out.cell (p := ⟨w.heap.size, 1, none⟩) (by simp)).trans (by simp)
              have y4 : wo.cell? ⟨w.heap.size, 2, none⟩ = some (.string note) := (hB.out.cell (p := ⟨w.heap.size, 2, none⟩) (by simp)).trans (by simp)
              have hjs : (jn L k).size ≤ 4000004000000 := Nat.le_trans (jn_size L 2000000 HS.out k (by rw [HN.out]; exact hk)) (Nat.le_trans (Nat.mul_le_mul (Nat.le_trans hk hL) (Nat.le_refl _)) (by decide))
              by_cases d : k < 1
              · have d0 : (k : Int) < 1 := by omega
                have d1 : decide ((k : Int) < 1) = true := decide_eq_true d0
                have d2 : (0 : Int) ≤ (k : Int) := by omega
                have hkL : k < L.length := by have := HN.out; omega
                have y1 := HD.out k hkL
                have y2 : wo.cell? ⟨g, off + k, none⟩ = some (.string (L.getD k ⟨#[]⟩)) := by
                  rw [← y1]
                  exact (hB.out.cell (p := ⟨g, off + k, none⟩) (by show g < _; omega)).trans (HB1.out.cell (p := ⟨g, off + k, none⟩) hg)
                have hx : (L.getD k ⟨#[]⟩).size ≤ 2000000 := HS.out _ (by rw [List.getD, List.getElem?_eq_getElem hkL]; exact List.getElem_mem _)
                have HNo : Hid (lwB (L.getD k ⟨#[]⟩) none4 = false → prA L note = .returned (.tuple #[.string ⟨#[]⟩, .int .i64 1])) := fun h => prA_no (by unfold mayB; rw [allK_no h _ hkL]; simp)
                have HYes : Hid (lwB (L.getD k ⟨#[]⟩) none4 = true → allK L (k + 1) = true) := fun h => by rw [allK, hA.out, h]; rfl
                have HJ : Hid (jn L (k + 1) = (if 0 < k then jn L k ++ ⟨#[59, 32]⟩ else jn L k) ++ L.getD k ⟨#[]⟩) := rfl
                obtain ⟨X, eX⟩ : ∃ X, L.getD k ⟨#[]⟩ = X := ⟨_, rfl⟩
                rw [eX] at y2 HNo HYes hx HJ
                obtain ⟨J, eJ⟩ : ∃ J, jn L k = J := ⟨_, rfl⟩
                rw [eJ] at ho HJ hjs
                subst ho
                have kh : ∀ w, Calls Tryd.prog 28 #[.string X, .string ⟨#[10, 13, 59, 35]⟩] w fun e w' => e = .returned (.bool (hasB X none4)) ∧ ∃ m, w' = w.drewN m := fun w => has_any X none4 w (by omega) (by decide)
                have kb : ∀ w, Calls Tryd.prog 29 #[.string X] w fun e w' => e = .returned (.string (bareT X)) ∧ w' = w := fun w => bare_any X w (by omega)
                have hst := bare_same X
                have hst2 := bare_diff X
                clear y1 eX hkL eJ
                cases q : hasB X none4 with
                | true =>
                  have HR : Hid (prA L note = .returned (.tuple #[.string ⟨#[]⟩, .int .i64 1])) := HNo.out (by unfold lwB; rw [q]; rfl)
                  simp only [q] at kh
                  clear HNo HYes q kb hst hst2
                  go_wp2_with (go_at_call 28; refine (kh _).mono ?_)
                  rintro e w2 ⟨rfl, m, hw2⟩
                  have HB2 : Hid (Below w.heap.size w w2) := kB.out w2 (by rw [hw2]; exact below_drewN (Below.refl _ _) _)
                  clear kh hw2
                  go_wp2
                  exact bodyPost_ret (v := .tuple #[.string ⟨#[]⟩, .int .i64 1]) (by simp [results, Tryd.results15, go_sem]) rfl ⟨by rw [HR.out], HB2⟩
                | false =>
                  simp only [q] at kh
                  cases q2 : okE X with
                  | false =>
                    have HR : Hid (prA L note = .returned (.tuple #[.string ⟨#[]⟩, .int .i64 1])) := HNo.out (by unfold lwB; rw [q, q2]; rfl)
                    rw [q2] at hst hst2
                    obtain ⟨B2, eB2⟩ : ∃ B, bareT X = B := ⟨_, rfl⟩
                    rw [eB2] at hst hst2
                    simp only [eB2] at kb
                    clear HNo HYes q q2 eB2
                    go_wp2_with (go_at_call 28; refine (kh _).mono ?_)
                    rintro e w2 ⟨rfl, m, hw2⟩
                    have HB2 : Hid (Below w.heap.size w w2) := kB.out w2 (by rw [hw2]; exact below_drewN (Below.refl _ _) _)
                    clear kh hw2
                    go_wp2_with (go_at_call 29; refine (kb _).mono ?_; rintro e w' ⟨rfl, hw⟩; rw [hw])
                    exact bodyPost_ret (v := .tuple #[.string ⟨#[]⟩, .int .i64 1]) (by simp [results, Tryd.results15, go_sem]) rfl ⟨by rw [HR.out], HB2⟩
                  | true =>
                    have HR : Hid (allK L (k + 1) = true) := HYes.out (by unfold lwB; rw [q, q2]; rfl)
                    rw [q2] at hst hst2
                    obtain ⟨B2, eB2⟩ : ∃ B, bareT X = B := ⟨_, rfl⟩
                    rw [eB2] at hst hst2
                    simp only [eB2] at kb
                    clear HNo HYes q q2 eB2
                    go_wp2_with (go_at_call 28; refine (kh _).mono ?_)
                    rintro e w2 ⟨rfl, m, hw2⟩
                    have HB2 : Hid (Below (w.heap.size + 1) (w.alloc (.cells #[.int .i64 num, .slice (some ⟨g, off, none⟩) 1 c, .string note] 53)) w2) := by rw [hw2]; exact below_drewN hB.out _
                    clear kh hw2
                    by_cases z : 0 < k
                    · exfalso; omega
                    · obtain rfl : k = 0 := by omega
                      have HJ2 : Hid (jn L (0 + 1) = J ++ X) := by unfold Hid; rw [HJ.out, if_neg z]
                      clear HJ
                      go_wp2_with (go_at_call 29; refine (kb _).mono ?_; rintro e w' ⟨rfl, hw⟩; rw [hw])
                      refine ⟨⟨0 + 1, by simp, by omega, by rw [HJ2.out], HR, HB2⟩, ?_⟩
                      simp [RowKit.intOf] <;> omega
              · obtain rfl : k = 1 := by omega
                have d1 : decide (1 < 1) = false := by simp
                have HB2 : Hid (Below w.heap.size w wo) := kB.out wo (Below.refl _ _)
                have HA2 : Hid (mayB L note = true) := by
                  unfold Hid mayB
                  rw [HM.out, HN.out, hA.out, HL.out]
                  rfl
                have hP0 : note.size = 0 → prT L note = jn L 1 ++ ⟨#[10]⟩ := fun h => by unfold prT; rw [if_pos h, HN.out]
                have hP1 : note.size ≠ 0 → prT L note = (jn L 1 ++ (⟨#[32, 35, 32]⟩ ++ note)) ++ ⟨#[10]⟩ := fun h => by unfold prT; rw [if_neg h, HN.out]
                obtain ⟨J, eJ⟩ : ∃ J, jn L 1 = J := ⟨_, rfl⟩
                rw [eJ] at ho hP0 hP1 hjs
                subst ho
                have em := toList_nil note
                have em2 := empty_is note
                clear eJ
                by_cases z : note.size = 0
                · rw [decide_eq_true z] at em em2
                  have HZ : Hid (prA L note = .returned (.tuple #[.string (J ++ ⟨#[10]⟩), .int .i64 0])) := by unfold Hid; rw [prA_yes HA2.out, hP0 z]
                  clear hP0 hP1
                  go_wp2
                  exact bodyPost_ret (v := .tuple #[.string (J ++ ⟨#[10]⟩), .int .i64 0]) (by simp [results, Tryd.results15, go_sem]) rfl ⟨by rw [HZ.out], HB2⟩
                · rw [decide_eq_false z] at em em2
                  have HZ : Hid (prA L note = .returned (.tuple #[.string ((J ++ (⟨#[32, 35, 32]⟩ ++ note)) ++ ⟨#[10]⟩), .int .i64 0])) := by unfold Hid; rw [prA_yes HA2.out, hP1 z]
                  clear hP0 hP1
                  go_wp2
                  exact bodyPost_ret (v := .tuple #[.string ((J ++ (⟨#[32, 35, 32]⟩ ++ note)) ++ ⟨#[10]⟩), .int .i64 0]) (by simp [results, Tryd.results15, go_sem]) rfl ⟨by rw [HZ.out], HB2⟩
      · have e1 : ((N : Int) == 0) = false := beq_false_of_ne (by omega)
        have e2 : ((N : Int) == 1) = false := beq_false_of_ne (by omega)
        have e3 : (0 : Int) ≤ (N : Int) := by omega
        clear h1 y0'
        go_enter Tryd.func15, Tryd.ntmps15
        cases hb with
        | true =>
          have HR : Hid (prA L note = .returned (.tuple #[.string ⟨#[]⟩, .int .i64 1])) := prA_no (mayB_note (by rw [HL.out]; rfl))
          go_wp2
          go_quiet (first | (go_at_call 28; refine (kh _).mono ?_; rintro e w' ⟨rfl, m, rfl⟩; exact ⟨rfl, _, World.drewN_drewN _ _ _⟩) | (go_at_call 29; refine (kb _).mono ?_; rintro e w' ⟨rfl, rfl⟩; exact ⟨rfl, _, rfl⟩))
          go_wp2
          exact bodyPost_ret (v := .tuple #[.string ⟨#[]⟩, .int .i64 1]) (by simp [results, Tryd.results15, go_sem]) rfl ⟨by rw [HR.out], below_drewN HB1.out _⟩
        | false =>
          cases ok with
          | false =>
            have HR : Hid (prA L note = .returned (.tuple #[.string ⟨#[]⟩, .int .i64 1])) := prA_no (mayB_note (by rw [HL.out]; rfl))
            go_wp2
            go_quiet (first | (go_at_call 28; refine (kh _).mono ?_; rintro e w' ⟨rfl, m, rfl⟩; exact ⟨rfl, _, World.drewN_drewN _ _ _⟩) | (go_at_call 29; refine (kb _).mono ?_; rintro e w' ⟨rfl, rfl⟩; exact ⟨rfl, _, rfl⟩))
            go_wp2
            exact bodyPost_ret (v := .tuple #[.string ⟨#[]⟩, .int .i64 1]) (by simp [results, Tryd.results15, go_sem]) rfl ⟨by rw [HR.out], below_drewN HB1.out _⟩
          | true =>
            go_wp2
            go_quiet (first | (go_at_call 28; refine (kh _).mono ?_; rintro e w' ⟨rfl, m, rfl⟩; exact ⟨rfl, _, World.drewN_drewN _ _ _⟩) | (go_at_call 29; refine (kb _).mono ?_; rintro e w' ⟨rfl, rfl⟩; exact ⟨rfl, _, rfl⟩))
            go_wp2
            clear kh kb hst hst2 e1 e2
            go_loopw [4, 5, 6] (fun o x _ wr => ∃ k : Nat, x = .int .i64 (k : Int) ∧ k ≤ N ∧ o = .string (jn L k) ∧ Hid (allK L k = true) ∧ Hid (Below (w.heap.size + 1) (w.alloc (.cells #[.int .i64 num, .slice (some ⟨g, off, none⟩) N c, .string note] 53)) wr)) (fun _ x _ _ => N - (RowKit.intOf x).toNat)
            case atStart => exact ⟨0, rfl, Nat.zero_le _, rfl, rfl, below_drewN (Below.refl _ _) _⟩
            case round =>
              obtain ⟨wo, hwo⟩ : ∃ wo, wr = wo := ⟨_, rfl⟩
              rw [hwo] at hrel ⊢
              clear hwo
              obtain ⟨k, rfl, hk, ho, hA, hB⟩ := hrel
              have kB : Hid (∀ w2, Below wo.heap.size wo w2 → Below w.heap.size w w2) := fun w2 h => HB1.out.trans (hB.out.mono (by omega) |>.trans (h.mono (by have h3 := hB.out.size; have h4 : (w.alloc (.cells #[.int .i64 num, .slice (some ⟨g, off, none⟩) N c, .string note] 53)).heap.size = w.heap.size + 1 := World.size_alloc _ _; omega)))
              have y3 : wo.cell? ⟨w.heap.size, 1, none⟩ = some (.slice (some ⟨g, off, none⟩) N c) := (hB.out.cell (p := ⟨w.heap.size, 1, none⟩) (by simp)).trans (by simp)
              have y4 : wo.cell? ⟨w.heap.size, 2, none⟩ = some (.string note) := (hB.out.cell (p := ⟨w.heap.size, 2, none⟩) (by simp)).trans (by simp)
              have hjs : (jn L k).size ≤ 4000004000000 := Nat.le_trans (jn_size L 2000000 HS.out k (by rw [HN.out]; exact hk)) (Nat.le_trans (Nat.mul_le_mul (Nat.le_trans hk hL) (Nat.le_refl _)) (by decide))
              by_cases d : k < N
              · have d0 : (k : Int) < (N : Int) := by omega
                have d1 : decide ((k : Int) < (N : Int)) = true := decide_eq_true d0
                have d2 : (0 : Int) ≤ (k : Int) := by omega
                have hkL : k < L.length := by have := HN.out; omega
                have y1 := HD.out k hkL
                have y2 : wo.cell? ⟨g, off + k, none⟩ = some (.string (L.getD k ⟨#[]⟩)) := by
                  rw [← y1]
                  exact (hB.out.cell (p := ⟨g, off + k, none⟩) (by show g < _; omega)).trans (HB1.out.cell (p := ⟨g, off + k, none⟩) hg)
                have hx : (L.getD k ⟨#[]⟩).size ≤ 2000000 := HS.out _ (by rw [List.getD, List.getElem?_eq_getElem hkL]; exact List.getElem_mem _)
                have HNo : Hid (lwB (L.getD k ⟨#[]⟩) none4 = false → prA L note = .returned (.tuple #[.string ⟨#[]⟩, .int .i64 1])) := fun h => prA_no (by unfold mayB; rw [allK_no h _ hkL]; simp)
                have HYes : Hid (lwB (L.getD k ⟨#[]⟩) none4 = true → allK L (k + 1) = true) := fun h => by rw [allK, hA.out, h]; rfl
                have HJ : Hid (jn L (k + 1) = (if 0 < k then jn L k ++ ⟨#[59, 32]⟩ else jn L k) ++ L.getD k ⟨#[]⟩) := rfl
                obtain ⟨X, eX⟩ : ∃ X, L.getD k ⟨#[]⟩ = X := ⟨_, rfl⟩
                rw [eX] at y2 HNo HYes hx HJ
                obtain ⟨J, eJ⟩ : ∃ J, jn L k = J := ⟨_, rfl⟩
                rw [eJ] at ho HJ hjs
                subst ho
                have kh : ∀ w, Calls Tryd.prog 28 #[.string X, .string ⟨#[10, 13, 59, 35]⟩] w fun e w' => e = .returned (.bool (hasB X none4)) ∧ ∃ m, w' = w.drewN m := fun w => has_any X none4 w (by omega) (by decide)
                have kb : ∀ w, Calls Tryd.prog 29 #[.string X] w fun e w' => e = .returned (.string (bareT X)) ∧ w' = w := fun w => bare_any X w (by omega)
                have hst := bare_same X
                have hst2 := bare_diff X
                clear y1 eX hkL eJ
                cases q : hasB X none4 with
                | true =>
                  have HR : Hid (prA L note = .returned (.tuple #[.string ⟨#[]⟩, .int .i64 1])) := HNo.out (by unfold lwB; rw [q]; rfl)
                  simp only [q] at kh
                  clear HNo HYes q kb hst hst2
                  go_wp2_with (go_at_call 28; refine (kh _).mono ?_)
                  rintro e w2 ⟨rfl, m, hw2⟩
                  have HB2 : Hid (Below w.heap.size w w2) := kB.out w2 (by rw [hw2]; exact below_drewN (Below.refl _ _) _)
                  clear kh hw2
                  go_wp2
                  exact bodyPost_ret (v := .tuple #[.string ⟨#[]⟩, .int .i64 1]) (by simp [results, Tryd.results15, go_sem]) rfl ⟨by rw [HR.out], HB2⟩
                | false =>
                  simp only [q] at kh
                  cases q2 : okE X with
                  | false =>
                    have HR : Hid (prA L note = .returned (.tuple #[.string ⟨#[]⟩, .int .i64 1])) := HNo.out (by unfold lwB; rw [q, q2]; rfl)
                    rw [q2] at hst hst2
                    obtain ⟨B2, eB2⟩ : ∃ B, bareT X = B := ⟨_, rfl⟩
                    rw [eB2] at hst hst2
                    simp only [eB2] at kb
                    clear HNo HYes q q2 eB2
                    go_wp2_with (go_at_call 28; refine (kh _).mono ?_)
                    rintro e w2 ⟨rfl, m, hw2⟩
                    have HB2 : Hid (Below w.heap.size w w2) := kB.out w2 (by rw [hw2]; exact below_drewN (Below.refl _ _) _)
                    clear kh hw2
                    go_wp2_with (go_at_call 29; refine (kb _).mono ?_; rintro e w' ⟨rfl, hw⟩; rw [hw])
                    exact bodyPost_ret (v := .tuple #[.string ⟨#[]⟩, .int .i64 1]) (by simp [results, Tryd.results15, go_sem]) rfl ⟨by rw [HR.out], HB2⟩
                  | true =>
                    have HR : Hid (allK L (k + 1) = true) := HYes.out (by unfold lwB; rw [q, q2]; rfl)
                    rw [q2] at hst hst2
                    obtain ⟨B2, eB2⟩ : ∃ B, bareT X = B := ⟨_, rfl⟩
                    rw [eB2] at hst hst2
                    simp only [eB2] at kb
                    clear HNo HYes q q2 eB2
                    go_wp2_with (go_at_call 28; refine (kh _).mono ?_)
                    rintro e w2 ⟨rfl, m, hw2⟩
                    have HB2 : Hid (Below (w.heap.size + 1) (w.alloc (.cells #[.int .i64 num, .slice (some ⟨g, off, none⟩) N c, .string note] 53)) w2) := by rw [hw2]; exact below_drewN hB.out _
                    clear kh hw2
                    by_cases z : 0 < k
                    · have z1 : (0 : Int) < (k : Int) := by omega
                      have HJ2 : Hid (jn L (k + 1) = (J ++ ⟨#[59, 32]⟩) ++ X) := by unfold Hid; rw [HJ.out, if_pos z]
                      clear HJ
                      go_wp2_with (go_at_call 29; refine (kb _).mono ?_; rintro e w' ⟨rfl, hw⟩; rw [hw])
                      refine ⟨⟨k + 1, by simp, by omega, by rw [HJ2.out], HR, HB2⟩, ?_⟩
                      simp [RowKit.intOf] <;> omega
                    · obtain rfl : k = 0 := by omega
                      have HJ2 : Hid (jn L (0 + 1) = J ++ X) := by unfold Hid; rw [HJ.out, if_neg z]
                      clear HJ
                      go_wp2_with (go_at_call 29; refine (kb _).mono ?_; rintro e w' ⟨rfl, hw⟩; rw [hw])
                      refine ⟨⟨0 + 1, by simp, by omega, by rw [HJ2.out], HR, HB2⟩, ?_⟩
                      simp [RowKit.intOf] <;> omega
              · obtain rfl : N = k := by omega
                clear d
                have d1 : decide ((N : Int) < (N : Int)) = false := by simp
                have HB2 : Hid (Below w.heap.size w wo) := kB.out wo (Below.refl _ _)
                have HA2 : Hid (mayB L note = true) := by
                  unfold Hid mayB
                  rw [HM.out, HN.out, hA.out, HL.out]
                  rfl
                have hP0 : note.size = 0 → prT L note = jn L N ++ ⟨#[10]⟩ := fun h => by unfold prT; rw [if_pos h, HN.out]
                have hP1 : note.size ≠ 0 → prT L note = (jn L N ++ (⟨#[32, 35, 32]⟩ ++ note)) ++ ⟨#[10]⟩ := fun h => by unfold prT; rw [if_neg h, HN.out]
                obtain ⟨J, eJ⟩ : ∃ J, jn L N = J := ⟨_, rfl⟩
                rw [eJ] at ho hP0 hP1 hjs
                subst ho
                have em := toList_nil note
                have em2 := empty_is note
                clear eJ
                by_cases z : note.size = 0
                · rw [decide_eq_true z] at em em2
                  have HZ : Hid (prA L note = .returned (.tuple #[.string (J ++ ⟨#[10]⟩), .int .i64 0])) := by unfold Hid; rw [prA_yes HA2.out, hP0 z]
                  clear hP0 hP1
                  go_wp2
                  exact bodyPost_ret (v := .tuple #[.string (J ++ ⟨#[10]⟩), .int .i64 0]) (by simp [results, Tryd.results15, go_sem]) rfl ⟨by rw [HZ.out], HB2⟩
                · rw [decide_eq_false z] at em em2
                  have HZ : Hid (prA L note = .returned (.tuple #[.string ((J ++ (⟨#[32, 35, 32]⟩ ++ note)) ++ ⟨#[10]⟩), .int .i64 0])) := by unfold Hid; rw [prA_yes HA2.out, hP1 z]
                  clear hP0 hP1
                  go_wp2
                  exact bodyPost_ret (v := .tuple #[.string ((J ++ (⟨#[32, 35, 32]⟩ ++ note)) ++ ⟨#[10]⟩), .int .i64 0]) (by simp [results, Tryd.results15, go_sem]) rfl ⟨by rw [HZ.out], HB2⟩
end Go.Proofs.YtcjlplaepnpopaaDoor
