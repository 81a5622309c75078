/-
  The contract of the document's Compare. Conditions: the texts take no more bytes than there are.
-/
import Derived.Test.YtabofadjnbpjkacDoorVa
import Derived.Test.YtabofadjnbpjkacDoorRd
import Derived.BigQuiet
import Derived.Deep.QuietTactic
namespace Go.Proofs.YtabofadjnbpjkacDoor
open Go.RowKit Go.Lib
/-- What a text says in units. -/
def unT (s : ByteArray) : List Int := uns (nums s)
theorem unL_nums (s : ByteArray) : unL (nums s) = unT s := by
  unfold unL unT
  rw [if_pos ((all_valid _ 0).2 (nums_valid s))]
theorem nums_len (s : ByteArray) : (nums s).length ≤ s.size := by
  unfold nums
  rw [List.length_map]
  exact posAt_len s s.size 0 (by omega)
theorem unT_len (s : ByteArray) : (unT s).length ≤ 2 * s.size := Nat.le_trans (uns_len _) (by have := nums_len s; omega)
set_option maxRecDepth 100000 in
set_option maxHeartbeats 2000000 in
theorem rcmp_any (s t : ByteArray) (w : World) (hs : s.size ≤ 5864062010000) (ht : t.size ≤ 5864062010000) :
    Calls Tryd.prog 9 #[.string s, .string t] w fun e w' => e = .returned (.int .i64 (cmpL (unT s) (unT t))) ∧ Below w.heap.size w w' := by
  have n1 := nums_len s
  have n2 := nums_len t
  have z1 := unT_len s
  have z2 := unT_len t
  have K1 := rdecode_any s w hs
  rw [runes_nums] at K1
  have e1 : (poss s).length = (nums s).length := by unfold nums; rw [List.length_map]
  have e2 : (poss t).length = (nums t).length := by unfold nums; rw [List.length_map]
  rw [e1] at K1
  go_enter Tryd.func9, Tryd.ntmps9
  go_wp2_with (go_at_call 25; refine K1.mono ?_)
  first | rintro e w1 v1 rfl o1 b1 | rintro e w1 ⟨v1, rfl, o1, b1⟩
  have K2 := runits_any (nums s) v1 w1 (by omega) (Rds.of_owns o1)
  rw [unL_nums] at K2
  have B1 : Hid (Below w.heap.size w w1) := b1
  clear o1 b1 K1
  go_wp2_with (go_at_call 26; refine K2.mono ?_)
  first | rintro e w2 u2 rfl r2 b2 | rintro e w2 ⟨u2, rfl, r2, b2⟩
  have B2 : Hid (Below w.heap.size w w2) := B1.out.trans (b2.mono B1.out.size)
  have R2 : Hid (Rds .u16 w2 u2 (unT s)) := r2
  have K3 := rdecode_any t w2 ht
  rw [runes_nums, e2] at K3
  clear r2 b2 K2 B1
  go_wp2_with (go_at_call 25; refine K3.mono ?_)
  first | rintro e w3 v3 rfl o3 b3 | rintro e w3 ⟨v3, rfl, o3, b3⟩
  have K4 := runits_any (nums t) v3 w3 (by omega) (Rds.of_owns o3)
  rw [unL_nums] at K4
  have B3 : Hid (Below w.heap.size w w3) := B2.out.trans (b3.mono B2.out.size)
  have R3 : Hid (Rds .u16 w3 u2 (unT s)) := R2.out.below b3
  clear o3 b3 K3 B2 R2
  go_wp2_with (go_at_call 26; refine K4.mono ?_)
  first | rintro e w4 u4 rfl r4 b4 | rintro e w4 ⟨u4, rfl, r4, b4⟩
  have B4 : Hid (Below w.heap.size w w4) := B3.out.trans (b4.mono B3.out.size)
  have RA : Hid (∀ W, Below w4.heap.size w4 W → Rds .u16 W u2 (unT s)) := fun W hW => (R3.out.below b4).below hW
  have RB : Hid (∀ W, Below w4.heap.size w4 W → Rds .u16 W u4 (unT t)) := fun W hW => r4.below hW
  obtain ⟨a, c, rfl, _⟩ := R3.out.below b4
  obtain ⟨a', c', rfl, _⟩ := r4
  clear b4 K4 B3 R3 e1 e2 n1 n2
  obtain ⟨A, hA⟩ : ∃ A, unT s = A := ⟨_, rfl⟩
  obtain ⟨B, hB⟩ : ∃ B, unT t = B := ⟨_, rfl⟩
  rw [hA] at RA z1 ⊢
  rw [hB] at RB z2 ⊢
  have HAB : Hid (unT s = A ∧ unT t = B) := ⟨hA, hB⟩
  clear hA hB
  go_wp2
  go_loopw [11] (fun i wr => ∃ k : Nat, i = .int .i64 k ∧ k ≤ A.length ∧ k ≤ B.length ∧ Hid (cmpL (A.drop k) (B.drop k) = cmpL A B) ∧ Hid (Below w4.heap.size w4 wr)) (fun i _ => A.length - (RowKit.intOf i).toNat)
  case atStart => exact ⟨0, rfl, Nat.zero_le _, Nat.zero_le _, by simp [Hid], Below.refl _ _⟩
  case round =>
    obtain ⟨k, rfl, hk, hk', HE, HW⟩ := hrel
    by_cases l1 : k < A.length
    · have l1i : (k : Int) < (A.length : Int) := by omega
      obtain ⟨a2, c2, e2, hn2⟩ := RA.out wr HW.out
      obtain ⟨g, o, ea, hc⟩ := hn2 (by omega)
      cases e2
      subst ea
      have c1 := hc k l1
      clear hn2 hc
      by_cases l2 : k < B.length
      · have l2j : (k : Int) < (B.length : Int) := by omega
        obtain ⟨a3, c3, e3, hn3⟩ := RB.out wr HW.out
        obtain ⟨g', o', ea', hc'⟩ := hn3 (by omega)
        cases e3
        subst ea'
        have d1 := hc' k l2
        clear hn3 hc'
        have hs := cmpL_step A B k l1 l2
        rw [HE.out] at hs
        generalize A.getD k 0 = x at *
        generalize B.getD k 0 = y at *
        by_cases h1 : x < y
        · have hz : cmpI x y = -1 := by unfold cmpI; rw [if_pos h1]
          rw [hz, if_neg (by omega)] at hs
          have HR : Hid (cmpL A B = -1) := hs
          clear hs HE hz
          go_wp2
          go_quiet (fail)
          go_wp2
          go_ret
          exact ⟨by rw [HAB.out.1, HAB.out.2, HR.out]; rfl, below_drewN (B4.out.trans (HW.out.mono B4.out.size)) _⟩
        · by_cases h2 : y < x
          · have hz : cmpI x y = 1 := by unfold cmpI; rw [if_neg h1, if_pos h2]
            rw [hz, if_neg (by omega)] at hs
            have HR : Hid (cmpL A B = 1) := hs
            clear hs HE hz
            go_wp2
            go_quiet (fail)
            go_wp2
            go_quiet (fail)
            go_wp2
            go_ret
            exact ⟨by rw [HAB.out.1, HAB.out.2, HR.out]; rfl, below_drewN (below_drewN (B4.out.trans (HW.out.mono B4.out.size)) _) _⟩
          · have hz : cmpI x y = 0 := by unfold cmpI; rw [if_neg h1, if_neg h2]
            rw [hz, if_pos rfl] at hs
            have HN : Hid (cmpL (A.drop (k + 1)) (B.drop (k + 1)) = cmpL A B) := hs.symm
            clear hs HE hz
            go_wp2
            go_quiet (fail)
            go_wp2
            go_quiet (fail)
            have HF := HW.out
            go_wp2
            exact ⟨⟨k + 1, by go_num, by omega, by omega, HN, below_drewN HF _⟩, by simp [RowKit.intOf]; omega⟩
      · have l2i : ¬ (k : Int) < (B.length : Int) := by omega
        have l3i : ¬ (A.length : Int) < (B.length : Int) := by omega
        have l4i : (B.length : Int) < (A.length : Int) := by omega
        have hs := cmpL_more A B k l1 (by omega)
        rw [HE.out] at hs
        have HR : Hid (cmpL A B = 1) := hs
        clear hs HE
        go_wp2
        go_ret
        exact ⟨by rw [HAB.out.1, HAB.out.2, HR.out]; rfl, B4.out.trans (HW.out.mono B4.out.size)⟩
    · have l1i : ¬ (k : Int) < (A.length : Int) := by omega
      have e : k = A.length := by omega
      subst e
      have hs := cmpL_nil A B A.length (Nat.le_refl _)
      rw [HE.out] at hs
      by_cases l3 : A.length < B.length
      · rw [if_pos l3] at hs
        have HR : Hid (cmpL A B = -1) := hs
        have l3i : (A.length : Int) < (B.length : Int) := by omega
        clear hs HE
        go_wp2
        go_ret
        exact ⟨by rw [HAB.out.1, HAB.out.2, HR.out]; rfl, B4.out.trans (HW.out.mono B4.out.size)⟩
      · rw [if_neg l3] at hs
        have HR : Hid (cmpL A B = 0) := hs
        have l3i : ¬ (A.length : Int) < (B.length : Int) := by omega
        have l4i : ¬ (B.length : Int) < (A.length : Int) := by omega
        clear hs HE
        go_wp2
        go_ret
        exact ⟨by rw [HAB.out.1, HAB.out.2, HR.out]; rfl, B4.out.trans (HW.out.mono B4.out.size)⟩
end Go.Proofs.YtabofadjnbpjkacDoor
