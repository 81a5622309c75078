/-
  The walk of the law OctetBack: it returns true and turns nothing that was there. Conditions: the numbers have 64 bits; the library's tables hold what their texts lay.
-/
import Derived.Test.YtgfgkhgohoaneaaDoorBk
import Derived.Test.YtgfgkhgohoaneaaDoorLawM
namespace Go.Proofs.YtgfgkhgohoaneaaDoor
open Go.RowKit
theorem noughts_next (k : Nat) : chs (List.replicate k 0) ++ ⟨#[48]⟩ = chs (List.replicate (k + 1) 0) := by
  rw [List.replicate_succ', chs_app]; rfl
theorem dgs_short (b n : Nat) (hb : 2 ≤ b) (hn : n ≤ 18446744073709551615) : (dgs b n).length ≤ 64 := by
  have key : ∀ m O, PrIn b n m O → (dgs b n).length ≤ 64 := by
    intro m
    induction m using Nat.strongRecOn with
    | ind m ih =>
      intro O h
      by_cases hm : m < b
      · rw [h.last hm, List.length_cons]
        have := h.len
        omega
      · exact ih (m / b) (Nat.div_lt_self (by omega) (by omega)) _ (h.next hb (by omega))
  exact key n [] (PrIn.first b n hn)
set_option maxRecDepth 100000 in
set_option maxHeartbeats 4000000 in
theorem lawK (n : Nat) (B z : Int) (w : World) (hn : n ≤ 18446744073709551615) (htab : Lib.TabIs Tryd.prog w "internal/strconv.uint64pow10" .u64 Lib.pow10Tab) (hT : Tz w) (hg : 2 < w.heap.size) :
    Calls Tryd.prog 4 #[.int .u64 n, .int .i64 B, .int .i64 z] w fun e w' => e = .returned (.bool true) ∧ Below w.heap.size w w' := by
  have k7 := print_all n B w hn htab hT hg
  have k9 := fun w => awake_any w
  clear htab hT
  by_cases hB : 2 ≤ B ∧ B ≤ 36
  · obtain ⟨b, rfl⟩ : ∃ b : Nat, B = (b : Int) := ⟨B.toNat, by omega⟩
    have hb : 2 ≤ b ∧ b ≤ 36 := by omega
    have hA := dgs_all b n hb.1
    have hsh := dgs_short b n hb.1 hn
    have hP : prA n b = .tuple #[.string (chs (dgs b n)), .int .i64 0] := by unfold prA; rw [if_pos hB]; rfl
    rw [hP] at k7
    have hd36 : ∀ d ∈ dgs b n, d < 36 := fun d hd => by have := hA.1 d hd; omega
    have hU := (upper_chs (dgs b n) hd36).num b n hb hA.2.2 hA.1 hA.2.1 hn
    have ku := fun w => upp_any (chs (dgs b n)) w (by rw [chs_size]; omega)
    have hZ : ∀ k, NumIs (chs (List.replicate k 0) ++ chs (dgs b n)) b n 0 0 := fun k => by
      rw [← chs_app]
      refine (says_chs _ ?_).num b n hb ?_ ?_ ?_ hn
      · intro d hd
        rcases List.mem_append.1 hd with h | h
        · have := (List.mem_replicate.1 h).2; omega
        · exact hd36 d h
      · intro e; exact hA.2.2 (List.append_eq_nil_iff.1 e).2
      · intro d hd
        rcases List.mem_append.1 hd with h | h
        · have := (List.mem_replicate.1 h).2; omega
        · exact hA.1 d h
      · rw [num_noughts]; exact hA.2.1
    have zS : (chs (dgs b n)).size ≤ 64 := by rw [chs_size]; exact hsh
    obtain ⟨S, hS⟩ : ∃ S, chs (dgs b n) = S := ⟨_, rfl⟩
    rw [hS] at k7 hU ku hZ zS
    have zU : (strOfNums ((List.range S.size).map fun j => upp (byteAt S j))).size ≤ 64 := by rw [strOfNums_size]; simpa using zS
    obtain ⟨U, hUU⟩ : ∃ U, strOfNums ((List.range S.size).map fun j => upp (byteAt S j)) = U := ⟨_, rfl⟩
    rw [hUU] at hU ku zU
    have kn2 : ∀ w, Calls Tryd.prog 5 #[.string U, .int .i64 b] w fun e w' => e = .returned (.tuple #[.int .u64 n, .int .i64 0, .int .i64 0]) ∧ w' = w := fun w => by
      refine (number_any U b w (by omega)).mono ?_
      rintro e w' ⟨n1, i1, e1, rfl, h1, rfl⟩
      obtain ⟨rfl, rfl, rfl⟩ := h1.one hU
      exact ⟨rfl, rfl⟩
    have kn1 : ∀ k, k ≤ 40 → ∀ w, Calls Tryd.prog 5 #[.string (chs (List.replicate k 0) ++ S), .int .i64 b] w fun e w' => e = .returned (.tuple #[.int .u64 n, .int .i64 0, .int .i64 0]) ∧ w' = w := fun k hk w => by
      refine (number_any (chs (List.replicate k 0) ++ S) b w (by rw [ByteArray.size_append, chs_size, List.length_replicate]; omega)).mono ?_
      rintro e w' ⟨n1, i1, e1, rfl, h1, rfl⟩
      obtain ⟨rfl, rfl, rfl⟩ := h1.one (hZ k)
      exact ⟨rfl, rfl⟩
    have g1 : decide ((b : Int) < 2) = false := decide_eq_false (by omega)
    have g2 : decide ((36 : Int) < (b : Int)) = false := decide_eq_false (by omega)
    clear hA hsh hP hd36 hU hZ hS hUU hB
    go_enter Tryd.func4, Tryd.ntmps4
    go_wp2_with (go_at_call 7; refine k7.mono ?_)
    rintro e w1 ⟨rfl, b1⟩
    have B1 : Hid (Below w.heap.size w w1) := b1
    clear b1 k7
    go_wp2
    go_loopw [9, 10] (fun o i wr => wr = w1 ∧ ∃ k : Nat, i = .int .i64 k ∧ k ≤ 40 ∧ o = .string (chs (List.replicate k 0))) (fun _ i _ => 40 - (RowKit.intOf i).toNat)
    case atStart => exact ⟨rfl, 0, rfl, by omega, rfl⟩
    case round =>
      obtain ⟨rfl, k, rfl, hk, rfl⟩ := hrel
      have zk : (chs (List.replicate k 0)).size = k := by rw [chs_size, List.length_replicate]
      have hnx := noughts_next k
      by_cases hc : (k : Int) < z ∧ k < 40
      · have c1 : decide ((k : Int) < z) = true := decide_eq_true hc.1
        have c2 : (k : Int) < 40 := by omega
        have hov : ¬ 9223372036854775807 < k + 1 := by omega
        have HN : Hid (chs (List.replicate k 0) ++ ⟨#[48]⟩ = chs (List.replicate (k + 1) 0)) := hnx
        obtain ⟨C, hC⟩ : ∃ C, chs (List.replicate k 0) = C := ⟨_, rfl⟩
        rw [hC] at HN zk ⊢
        clear hnx hC
        go_wp2
        exact ⟨⟨by first | rfl | trivial, k + 1, by go_num, by omega, by rw [HN.out]⟩, by simp [RowKit.intOf]; omega⟩
      · have kn := kn1 k hk
        have hov : ¬ 9223372036854775807 < (chs (List.replicate k 0)).size + S.size := by omega
        obtain ⟨C, hC⟩ : ∃ C, chs (List.replicate k 0) = C := ⟨_, rfl⟩
        rw [hC] at kn hov ⊢
        clear hnx hC kn1 zk
        by_cases c1 : (k : Int) < z
        · have c2 : ¬ (k : Int) < 40 := by omega
          have c1' : decide ((k : Int) < z) = true := decide_eq_true c1
          have c2' : decide ((k : Int) < 40) = false := decide_eq_false c2
          clear hc
          go_wp2_with (first | (go_at_call 5; refine (kn _).mono ?_; rintro e w' ⟨rfl, rfl⟩))
          refine (ku _).mono ?_
          rintro e w2 ⟨rfl, b2⟩
          have B2 : Hid (Below w.heap.size w w2) := B1.out.trans (b2.mono B1.out.size)
          clear b2
          go_wp2_with (first | (go_at_call 5; refine (kn2 _).mono ?_; rintro e w' ⟨rfl, rfl⟩) | (go_at_call 9; refine (k9 _).mono ?_; rintro e w' ⟨rfl, rfl⟩))
          go_ret
          exact ⟨rfl, B2.out⟩
        · have c1' : decide ((k : Int) < z) = false := decide_eq_false c1
          clear hc
          go_wp2_with (first | (go_at_call 5; refine (kn _).mono ?_; rintro e w' ⟨rfl, rfl⟩))
          refine (ku _).mono ?_
          rintro e w2 ⟨rfl, b2⟩
          have B2 : Hid (Below w.heap.size w w2) := B1.out.trans (b2.mono B1.out.size)
          clear b2
          go_wp2_with (first | (go_at_call 5; refine (kn2 _).mono ?_; rintro e w' ⟨rfl, rfl⟩) | (go_at_call 9; refine (k9 _).mono ?_; rintro e w' ⟨rfl, rfl⟩))
          go_ret
          exact ⟨rfl, B2.out⟩
  · have hP : prA n B = .tuple #[.string ⟨#[]⟩, .int .i64 11] := by unfold prA; rw [if_neg hB]
    rw [hP] at k7
    clear hP
    by_cases h1 : B < 2
    · have g1 : decide (B < 2) = true := decide_eq_true h1
      clear hB h1
      go_enter Tryd.func4, Tryd.ntmps4
      go_wp2_with (first | (go_at_call 7; refine k7.mono ?_; rintro e w' ⟨rfl, hb⟩) | (go_at_call 9; refine (k9 _).mono ?_; rintro e w' ⟨rfl, rfl⟩))
      go_ret
      exact ⟨rfl, hb⟩
    · have g1 : decide (B < 2) = false := decide_eq_false h1
      have g2 : decide (36 < B) = true := decide_eq_true (by omega)
      clear hB h1
      go_enter Tryd.func4, Tryd.ntmps4
      go_wp2_with (first | (go_at_call 7; refine k7.mono ?_; rintro e w' ⟨rfl, hb⟩) | (go_at_call 9; refine (k9 _).mono ?_; rintro e w' ⟨rfl, rfl⟩))
      go_ret
      exact ⟨rfl, hb⟩
end Go.Proofs.YtgfgkhgohoaneaaDoor
