/-
  What the two functions answer that read a number to any base, as one answer. Condition: the text is no longer than one that comes in can be.
-/
import Derived.Test.YtgfgkhgohoaneaaDoorNb
namespace Go.Proofs.YtgfgkhgohoaneaaDoor
open Go.RowKit
/-- The number, the place, the error. -/
def NumIs (s : ByteArray) (B : Int) (n : Nat) (i e : Int) : Prop :=
  (¬ (2 ≤ B ∧ B ≤ 36) ∧ n = 0 ∧ i = 0 ∧ e = 11) ∨ ((2 ≤ B ∧ B ≤ 36) ∧ s.size = 0 ∧ n = 0 ∧ i = 0 ∧ e = 12) ∨
  ((2 ≤ B ∧ B ≤ 36) ∧ 0 < s.size ∧ ∃ k : Nat, k < s.size ∧ i = k ∧ B.toNat ≤ hx (byt s k) ∧ Digs s B.toNat k ∧ n = 0 ∧ e = 12) ∨
  ((2 ≤ B ∧ B ≤ 36) ∧ 0 < s.size ∧ Digs s B.toNat s.size ∧ 18446744073709551615 < val s B.toNat s.size ∧ n = 0 ∧ i = 0 ∧ e = 13) ∨
  ((2 ≤ B ∧ B ≤ 36) ∧ 0 < s.size ∧ Digs s B.toNat s.size ∧ val s B.toNat s.size ≤ 18446744073709551615 ∧ n = val s B.toNat s.size ∧ i = 0 ∧ e = 0)
theorem NumIs.one {s : ByteArray} {B : Int} {n n' : Nat} {i e i' e' : Int} (h : NumIs s B n i e) (h' : NumIs s B n' i' e') : n = n' ∧ i = i' ∧ e = e' := by
  have dig : ∀ k b, k < s.size → b ≤ hx (byt s k) → Digs s b s.size → False := fun k b hk hb hd => by have := hd k hk; omega
  rcases h with ⟨a1, a2, a3, a4⟩ | ⟨a1, a2, a3, a4, a5⟩ | ⟨a1, a2, k, a3, a4, a5, a6, a7, a8⟩ | ⟨a1, a2, a3, a4, a5, a6, a7⟩ | ⟨a1, a2, a3, a4, a5, a6, a7⟩ <;>
  rcases h' with ⟨b1, b2, b3, b4⟩ | ⟨b1, b2, b3, b4, b5⟩ | ⟨b1, b2, k', b3, b4, b5, b6, b7, b8⟩ | ⟨b1, b2, b3, b4, b5, b6, b7⟩ | ⟨b1, b2, b3, b4, b5, b6, b7⟩
  all_goals first
    | exact absurd ‹2 ≤ B ∧ B ≤ 36› ‹¬ (2 ≤ B ∧ B ≤ 36)›
    | exact (dig _ _ a3 a5 b3).elim
    | exact (dig _ _ b3 b5 a3).elim
    | omega
    | (have e1 : k = k' := by
         rcases Nat.lt_trichotomy k k' with q | q | q
         · have := b6 k q; omega
         · exact q
         · have := a6 k' q; omega
       subst e1
       omega)
set_option maxHeartbeats 2000000 in
theorem number_any (s : ByteArray) (B : Int) (w : World) (hs : s.size ≤ 9223372036854775807) : Calls Tryd.prog 5 #[.string s, .int .i64 B] w fun e w' => ∃ (n : Nat) (i r : Int), e = .returned (.tuple #[.int .u64 n, .int .i64 i, .int .i64 r]) ∧ NumIs s B n i r ∧ w' = w := by
  have k0 := isBase_any B w
  by_cases h : 2 ≤ B ∧ B ≤ 36
  · rw [decide_eq_true h] at k0
    obtain ⟨b, rfl⟩ : ∃ b : Nat, B = (b : Int) := ⟨B.toNat, by omega⟩
    have hb : 2 ≤ b ∧ b ≤ 36 := by omega
    by_cases h0 : s.size = 0
    · have he := empty_is s
      rw [decide_eq_true h0] at he
      have HN : Hid (NumIs s b 0 0 12) := .inr (.inl ⟨h, h0, rfl, rfl, rfl⟩)
      have kf : ∀ w, Calls Tryd.prog 16 #[.string s, .int .i64 b] w fun e w' => e = .returned (.int .i64 0) ∧ w' = w := fun w => by
        go_enter Tryd.func16, Tryd.ntmps16
        go_wp2
        go_ret
        exact ⟨rfl, rfl⟩
      clear he h h0
      go_enter Tryd.func5, Tryd.ntmps5
      go_wp2_with (first | (go_at_call 15; refine k0.mono ?_; rintro e w' ⟨rfl, rfl⟩) | (go_at_call 16; refine (kf _).mono ?_; rintro e w' ⟨rfl, rfl⟩))
      exact bodyPost_ret (v := .tuple #[.int .u64 (0 : Nat), .int .i64 0, .int .i64 12]) (by simp [results, Tryd.results5, go_sem]) rfl ⟨0, 0, 12, rfl, HN.out, rfl⟩
    · have kf := fw_any s b w hs (by omega)
      have hpos : 0 < s.size := by omega
      go_enter Tryd.func5, Tryd.ntmps5
      go_wp2_with (first | (go_at_call 15; refine k0.mono ?_; rintro e w' ⟨rfl, rfl⟩))
      refine kf.mono ?_
      rintro e w' ⟨r, rfl, hF, rfl⟩
      rcases hF with ⟨k, hk, rfl, hx1, hx2⟩ | ⟨rfl, hD⟩
      · have hr : (0 : Int) ≤ (k : Int) := by omega
        have HN : Hid (NumIs s b 0 k 12) := .inr (.inr (.inl ⟨h, hpos, k, hk, rfl, hx1, hx2, rfl, rfl⟩))
        clear hx1 hx2 h
        go_wp2
        exact bodyPost_ret (v := .tuple #[.int .u64 (0 : Nat), .int .i64 (k : Int), .int .i64 12]) (by simp [results, Tryd.results5, go_sem]) rfl ⟨0, k, 12, rfl, HN.out, rfl⟩
      · have ks := sum_any s b w' hs hb.1 hb.2 hD
        by_cases hv : val s b s.size ≤ 18446744073709551615
        · have HN : Hid (NumIs s b (val s b s.size) 0 0) := .inr (.inr (.inr (.inr ⟨h, hpos, hD, hv, rfl, rfl, rfl⟩)))
          rw [if_pos hv] at ks
          obtain ⟨v, hvv⟩ : ∃ v, val s b s.size = v := ⟨_, rfl⟩
          rw [hvv] at ks HN
          clear h hD
          go_wp2_with (first | (go_at_call 17; refine ks.mono ?_; rintro e w' ⟨rfl, rfl⟩))
          exact bodyPost_ret (v := .tuple #[.int .u64 (v : Nat), .int .i64 0, .int .i64 0]) (by simp [results, Tryd.results5, go_sem]) rfl ⟨v, 0, 0, rfl, HN.out, rfl⟩
        · have HN : Hid (NumIs s b 0 0 13) := .inr (.inr (.inr (.inl ⟨h, hpos, hD, by show _ < val s b s.size; omega, rfl, rfl, rfl⟩)))
          rw [if_neg hv] at ks
          clear h hD hv
          go_wp2_with (first | (go_at_call 17; refine ks.mono ?_; rintro e w' ⟨rfl, rfl⟩))
          exact bodyPost_ret (v := .tuple #[.int .u64 (0 : Nat), .int .i64 0, .int .i64 13]) (by simp [results, Tryd.results5, go_sem]) rfl ⟨0, 0, 13, rfl, HN.out, rfl⟩
  · rw [decide_eq_false h] at k0
    have HN : Hid (NumIs s B 0 0 11) := .inl ⟨h, rfl, rfl, rfl⟩
    clear h
    go_enter Tryd.func5, Tryd.ntmps5
    go_wp2_with (first | (go_at_call 15; refine k0.mono ?_; rintro e w' ⟨rfl, rfl⟩))
    exact bodyPost_ret (v := .tuple #[.int .u64 (0 : Nat), .int .i64 0, .int .i64 11]) (by simp [results, Tryd.results5, go_sem]) rfl ⟨0, 0, 11, rfl, HN.out, rfl⟩
/-- Where the document's loop stands: all digits so far; the number, or something once it was too great. -/
def RnIn (s : ByteArray) (b k n : Nat) (g : Bool) : Prop := Digs s b k ∧ n ≤ 18446744073709551615 ∧ ((g = false ∧ val s b k = n) ∨ (g = true ∧ 18446744073709551615 < val s b k))
set_option maxHeartbeats 4000000 in
theorem rnumber_any (s : ByteArray) (B : Int) (w : World) (hs : s.size ≤ 9223372036854775807) : Calls Tryd.prog 6 #[.string s, .int .i64 B] w fun e w' => ∃ (n : Nat) (i r : Int), e = .returned (.tuple #[.int .u64 n, .int .i64 i, .int .i64 r]) ∧ NumIs s B n i r ∧ w' = w := by
  by_cases hB : 2 ≤ B ∧ B ≤ 36
  · obtain ⟨b, rfl⟩ : ∃ b : Nat, B = (b : Int) := ⟨B.toNat, by omega⟩
    have hb1 : 2 ≤ b := by omega
    have hb2 : b ≤ 36 := by omega
    have g1 : decide ((b : Int) < 2) = false := decide_eq_false (by omega)
    have g2 : decide ((36 : Int) < (b : Int)) = false := decide_eq_false (by omega)
    have he := empty_is s
    have hbz : ((b : Int) == 0) = false := beq_eq_false_iff_ne.2 (by omega)
    by_cases h0 : s.size = 0
    · rw [decide_eq_true h0] at he
      have HN : Hid (NumIs s b 0 0 12) := .inr (.inl ⟨hB, h0, rfl, rfl, rfl⟩)
      clear hB h0
      go_enter Tryd.func6, Tryd.ntmps6
      go_wp2
      exact bodyPost_ret (v := .tuple #[.int .u64 (0 : Nat), .int .i64 0, .int .i64 12]) (by simp [results, Tryd.results6, go_sem]) rfl ⟨0, 0, 12, rfl, HN.out, rfl⟩
    · rw [decide_eq_false h0] at he
      have hpos : 0 < s.size := by omega
      have HB : Hid (2 ≤ (b : Int) ∧ (b : Int) ≤ 36) := hB
      clear hB
      go_enter Tryd.func6, Tryd.ntmps6
      go_wp2
      go_loopw [7, 8, 9] (fun n g i wr => wr = w ∧ ∃ (k m : Nat) (q : Bool), i = .int .i64 k ∧ k ≤ s.size ∧ n = .int .u64 m ∧ g = .bool q ∧ Hid (RnIn s b k m q)) (fun _ _ i _ => s.size - (intOf i).toNat)
      case atStart => exact ⟨rfl, 0, 0, false, rfl, by omega, rfl, rfl, (fun j hj => by omega), by omega, .inl ⟨rfl, rfl⟩⟩
      case round =>
        obtain ⟨rfl, k, n, q, rfl, hk, rfl, rfl, HI⟩ := hrel
        by_cases hlt : k < s.size
        · have hbt := byt_eq s k hlt
          have kd := rdigit_any (byt s k) b wr (byt_lt s k)
          obtain ⟨hDk, hn, hcase⟩ := HI.out
          by_cases hd : hx (byt s k) < b
          · have hdg : digA (byt s k) b = hx (byt s k) := by unfold digA; rw [if_pos ⟨HB.out.1, HB.out.2, by omega⟩]
            rw [hdg] at kd
            have hnext : val s b (k + 1) = val s b k * b + hx (byt s k) := rfl
            have hval := val_le s b (by omega) k
            have hDn := hDk.succ hd
            obtain ⟨C, hC⟩ : ∃ C, byt s k = C := ⟨_, rfl⟩
            rw [hC] at hbt kd hd hnext hdg
            obtain ⟨d, hdd⟩ : ∃ d, hx C = d := ⟨_, rfl⟩
            rw [hdd] at kd hd hnext
            have hd0 : ¬ (d : Int) < 0 := by omega
            have hst := step_iff n d b (by omega) (by omega)
            obtain ⟨Q, hQ⟩ : ∃ Q, (18446744073709551615 - d) / b = Q := ⟨_, rfl⟩
            rw [hQ] at hst
            have hqi : ((18446744073709551615 : Int) - (d : Int)).tdiv (b : Int) = (Q : Int) := by
              rw [Int.tdiv_eq_ediv_of_nonneg (by omega)]
              have : (18446744073709551615 : Int) - (d : Int) = ((18446744073709551615 - d : Nat) : Int) := by omega
              rw [this, ← hQ]
              rfl
            have hq2 : ((18446744073709551615 : Int) - (d : Int)) / (b : Int) = (Q : Int) := by
              rw [← hqi, Int.tdiv_eq_ediv_of_nonneg (by omega)]
            have hqb : Q ≤ 18446744073709551615 := by rw [← hQ]; exact Nat.le_trans (Nat.div_le_self _ _) (by omega)
            by_cases hc : n * b + d ≤ 18446744073709551615
            · have hle : ¬ (Q : Int) < (n : Int) := by have := hst.2 hc; omega
              obtain ⟨m, hm⟩ : ∃ m, n * b = m := ⟨_, rfl⟩
              have hmi : (n : Int) * (b : Int) = (m : Int) := by rw [← hm]; simp
              have HN : Hid (RnIn s b (k + 1) (m + d) q) := by
                refine ⟨hDn, by omega, ?_⟩
                rcases hcase with ⟨e1, e2⟩ | ⟨e1, e2⟩
                · exact .inl ⟨e1, by rw [hnext, e2, hm]⟩
                · exact .inr ⟨e1, by omega⟩
              rw [hm] at hc
              clear hst hQ hnext hqi hm HI hDk hDn hcase hval hdg
              go_wp2_with (go_at_call 11; refine kd.mono ?_; rintro e w' ⟨rfl, rfl⟩)
              exact ⟨⟨by first | rfl | trivial, k + 1, m + d, q, by go_num, by omega, by simp, rfl, HN⟩, by simp [intOf]; omega⟩
            · have hgt : (Q : Int) < (n : Int) := by
                by_cases h : n ≤ Q
                · exact absurd (hst.1 h) hc
                · omega
              have HN : Hid (RnIn s b (k + 1) d true) := by
                refine ⟨hDn, by omega, .inr ⟨rfl, ?_⟩⟩
                rcases hcase with ⟨e1, e2⟩ | ⟨e1, e2⟩
                · rw [hnext, e2]; omega
                · omega
              clear hst hQ hnext hqi HI hDk hDn hcase hval hdg hc
              go_wp2_with (go_at_call 11; refine kd.mono ?_; rintro e w' ⟨rfl, rfl⟩)
              exact ⟨⟨by first | rfl | trivial, k + 1, d, true, by go_num, by omega, by simp, rfl, HN⟩, by simp [intOf]; omega⟩
          · have hdg : digA (byt s k) b = -1 := by unfold digA; rw [if_neg (fun q => hd (by omega))]
            rw [hdg] at kd
            have HN : Hid (NumIs s b 0 k 12) := .inr (.inr (.inl ⟨HB.out, hpos, k, hlt, rfl, by show b ≤ _; omega, hDk, rfl, rfl⟩))
            obtain ⟨C, hC⟩ : ∃ C, byt s k = C := ⟨_, rfl⟩
            rw [hC] at hbt kd
            clear HI hDk hcase hdg hd
            go_wp2_with (go_at_call 11; refine kd.mono ?_; rintro e w' ⟨rfl, rfl⟩)
            exact bodyPost_ret (v := .tuple #[.int .u64 (0 : Nat), .int .i64 (k : Int), .int .i64 12]) (by simp [results, Tryd.results6, go_sem]) rfl ⟨0, k, 12, rfl, HN.out, rfl⟩
        · have : k = s.size := by omega
          subst this
          obtain ⟨hDk, hn, hcase⟩ := HI.out
          rcases hcase with ⟨rfl, e2⟩ | ⟨rfl, e2⟩
          · have HN : Hid (NumIs s b n 0 0) := .inr (.inr (.inr (.inr ⟨HB.out, hpos, hDk, by show val s b s.size ≤ _; omega, e2.symm, rfl, rfl⟩)))
            clear HI hDk e2
            go_wp2
            exact bodyPost_ret (v := .tuple #[.int .u64 (n : Nat), .int .i64 0, .int .i64 0]) (by simp [results, Tryd.results6, go_sem]) rfl ⟨n, 0, 0, rfl, HN.out, rfl⟩
          · have HN : Hid (NumIs s b 0 0 13) := .inr (.inr (.inr (.inl ⟨HB.out, hpos, hDk, e2, rfl, rfl, rfl⟩)))
            clear HI hDk e2
            go_wp2
            exact bodyPost_ret (v := .tuple #[.int .u64 (0 : Nat), .int .i64 0, .int .i64 13]) (by simp [results, Tryd.results6, go_sem]) rfl ⟨0, 0, 13, rfl, HN.out, rfl⟩
  · have HN : Hid (NumIs s B 0 0 11) := .inl ⟨hB, rfl, rfl, rfl⟩
    by_cases h1 : B < 2
    · have g1 : decide (B < 2) = true := decide_eq_true h1
      clear hB
      go_enter Tryd.func6, Tryd.ntmps6
      go_wp2
      exact bodyPost_ret (v := .tuple #[.int .u64 (0 : Nat), .int .i64 0, .int .i64 11]) (by simp [results, Tryd.results6, go_sem]) rfl ⟨0, 0, 11, rfl, HN.out, rfl⟩
    · have g1 : decide (B < 2) = false := decide_eq_false h1
      have g2 : decide (36 < B) = true := decide_eq_true (by omega)
      clear hB h1
      go_enter Tryd.func6, Tryd.ntmps6
      go_wp2
      exact bodyPost_ret (v := .tuple #[.int .u64 (0 : Nat), .int .i64 0, .int .i64 11]) (by simp [results, Tryd.results6, go_sem]) rfl ⟨0, 0, 11, rfl, HN.out, rfl⟩
end Go.Proofs.YtgfgkhgohoaneaaDoor
