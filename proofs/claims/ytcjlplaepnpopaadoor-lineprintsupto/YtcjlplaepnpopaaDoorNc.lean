/-
  What the two functions answer that read a number to any base, as one answer. Condition: the text is no longer than one that comes in can be.
-/
import Derived.Test.YtcjlplaepnpopaaDoorNb
namespace Go.Proofs.YtcjlplaepnpopaaDoor
open Go.RowKit
/-- The number, the place, the error. -/
def NumIs (s : ByteArray) (B : Int) (n : Nat) (i e : Int) : Prop :=
  (¬ (2 ≤ B ∧ B ≤ 36) ∧ n = 0 ∧ i = 0 ∧ e = 11) ∨ ((2 ≤ B ∧ B ≤ 36) ∧ s.size = 0 ∧ n = 0 ∧ i = 0 ∧ e = 12) ∨
  ((2 ≤ B ∧ B ≤ 36) ∧ 0 < s.size ∧ ∃ k : Nat, k < s.size ∧ i = k ∧ B.toNat ≤ hx (byt s k) ∧ Digs s B.toNat k ∧ n = 0 ∧ e = 12) ∨
  ((2 ≤ B ∧ B ≤ 36) ∧ 0 < s.size ∧ Digs s B.toNat s.size ∧ 18446744073709551615 < val s B.toNat s.size ∧ n = 0 ∧ i = 0 ∧ e = 13) ∨
  ((2 ≤ B ∧ B ≤ 36) ∧ 0 < s.size ∧ Digs s B.toNat s.size ∧ val s B.toNat s.size ≤ 18446744073709551615 ∧ n = val s B.toNat s.size ∧ i = 0 ∧ e = 0)
theorem NumIs.one {s : ByteArray} {B : Int} {n n' : Nat} {i e i' e' : Int} (h : NumIs s B n i e) (h' : NumIs s B n' i' e') : n = n' ∧ i = i' ∧ e = e' := by
  have dig : ∀ k b, k < s.size → b ≤ hx (byt s k) → Digs s b s.size → False := fun k b hk hb hd => by have := hd k hk; omega
  rcases h with ⟨a1, a2, a3, a4⟩ | ⟨a1, a2, a3, a4, a5⟩ | ⟨a1, a2, k, a3, a4, a5, a6, a7, a8⟩ | ⟨a1, a2, a3, a4, a5, a6, a7⟩ | ⟨a1, a2, a3, a4, a5, a6, a7⟩ <;>
  rcases h' with ⟨b1, b2, b3, b4⟩ | ⟨b1, b2, b3, b4, b5⟩ | ⟨b1, b2, k', b3, b4, b5, b6, b7, b8⟩ | ⟨b1, b2, b3, b4, b5, b6, b7⟩ | ⟨b1, b2, b3, b4, b5, b6, b7⟩
  all_goals first
    | exact absurd ‹2 ≤ B ∧ B ≤ 36› ‹¬ (2 ≤ B ∧ B ≤ 36)›
    | exact (dig _ _ a3 a5 b3).elim
    | exact (dig _ _ b3 b5 a3).elim
    | omega
    | (have e1 : k = k' := by
         rcases Nat.lt_trichotomy k k' with q | q | q
         · have := b6 k q; omega
         · exact q
         · have := a6 k' q; omega
       subst e1
       omega)
set_option maxHeartbeats 2000000 in
theorem number_any (s : ByteArray) (B : Int) (w : World) (hs : s.size ≤ 9223372036854775807) : Calls Tryd.prog 20 #[.string s, .int .i64 B] w fun e w' => ∃ (n : Nat) (i r : Int), e = .returned (.tuple #[.int .u64 n, .int .i64 i, .int .i64 r]) ∧ NumIs s B n i r ∧ w' = w := by
  have k0 := isBase_any B w
  by_cases h : 2 ≤ B ∧ B ≤ 36
  · rw [decide_eq_true h] at k0
    obtain ⟨b, rfl⟩ : ∃ b : Nat, B = (b : Int) := ⟨B.toNat, by omega⟩
    have hb : 2 ≤ b ∧ b ≤ 36 := by omega
    by_cases h0 : s.size = 0
    · have he := empty_is s
      rw [decide_eq_true h0] at he
      have HN : Hid (NumIs s b 0 0 12) := .inr (.inl ⟨h, h0, rfl, rfl, rfl⟩)
      have kf : ∀ w, Calls Tryd.prog 36 #[.string s, .int .i64 b] w fun e w' => e = .returned (.int .i64 0) ∧ w' = w := fun w => by
        go_enter Tryd.func36, Tryd.ntmps36
        go_wp2
        go_ret
        exact ⟨rfl, rfl⟩
      clear he h h0
      go_enter Tryd.func20, Tryd.ntmps20
      go_wp2_with (first | (go_at_call 35; refine k0.mono ?_; rintro e w' ⟨rfl, rfl⟩) | (go_at_call 36; refine (kf _).mono ?_; rintro e w' ⟨rfl, rfl⟩))
      exact bodyPost_ret (v := .tuple #[.int .u64 (0 : Nat), .int .i64 0, .int .i64 12]) (by simp [results, Tryd.results20, go_sem]) rfl ⟨0, 0, 12, rfl, HN.out, rfl⟩
    · have kf := fw_any s b w hs (by omega)
      have hpos : 0 < s.size := by omega
      go_enter Tryd.func20, Tryd.ntmps20
      go_wp2_with (first | (go_at_call 35; refine k0.mono ?_; rintro e w' ⟨rfl, rfl⟩))
      refine kf.mono ?_
      rintro e w' ⟨r, rfl, hF, rfl⟩
      rcases hF with ⟨k, hk, rfl, hx1, hx2⟩ | ⟨rfl, hD⟩
      · have hr : (0 : Int) ≤ (k : Int) := by omega
        have HN : Hid (NumIs s b 0 k 12) := .inr (.inr (.inl ⟨h, hpos, k, hk, rfl, hx1, hx2, rfl, rfl⟩))
        clear hx1 hx2 h
        go_wp2
        exact bodyPost_ret (v := .tuple #[.int .u64 (0 : Nat), .int .i64 (k : Int), .int .i64 12]) (by simp [results, Tryd.results20, go_sem]) rfl ⟨0, k, 12, rfl, HN.out, rfl⟩
      · have ks := sum_any s b w' hs hb.1 hb.2 hD
        by_cases hv : val s b s.size ≤ 18446744073709551615
        · have HN : Hid (NumIs s b (val s b s.size) 0 0) := .inr (.inr (.inr (.inr ⟨h, hpos, hD, hv, rfl, rfl, rfl⟩)))
          rw [if_pos hv] at ks
          obtain ⟨v, hvv⟩ : ∃ v, val s b s.size = v := ⟨_, rfl⟩
          rw [hvv] at ks HN
          clear h hD
          go_wp2_with (first | (go_at_call 37; refine ks.mono ?_; rintro e w' ⟨rfl, rfl⟩))
          exact bodyPost_ret (v := .tuple #[.int .u64 (v : Nat), .int .i64 0, .int .i64 0]) (by simp [results, Tryd.results20, go_sem]) rfl ⟨v, 0, 0, rfl, HN.out, rfl⟩
        · have HN : Hid (NumIs s b 0 0 13) := .inr (.inr (.inr (.inl ⟨h, hpos, hD, by show _ < val s b s.size; omega, rfl, rfl, rfl⟩)))
          rw [if_neg hv] at ks
          clear h hD hv
          go_wp2_with (first | (go_at_call 37; refine ks.mono ?_; rintro e w' ⟨rfl, rfl⟩))
          exact bodyPost_ret (v := .tuple #[.int .u64 (0 : Nat), .int .i64 0, .int .i64 13]) (by simp [results, Tryd.results20, go_sem]) rfl ⟨0, 0, 13, rfl, HN.out, rfl⟩
  · rw [decide_eq_false h] at k0
    have HN : Hid (NumIs s B 0 0 11) := .inl ⟨h, rfl, rfl, rfl⟩
    clear h
    go_enter Tryd.func20, Tryd.ntmps20
    go_wp2_with (first | (go_at_call 35; refine k0.mono ?_; rintro e w' ⟨rfl, rfl⟩))
    exact bodyPost_ret (v := .tuple #[.int .u64 (0 : Nat), .int .i64 0, .int .i64 11]) (by simp [results, Tryd.results20, go_sem]) rfl ⟨0, 0, 11, rfl, HN.out, rfl⟩
end Go.Proofs.YtcjlplaepnpopaaDoor
