/-
  The contract of the document's out: a sum as a float. Conditions: no digit has come near 64 bits, and the number fits its 280 digits.
-/
import Derived.Test.YtdhfkdopcphjlabBm
namespace Go.Proofs.Ytdhfkdopcphjlab
open Go.RowKit
theorem scB_le (m : Nat) (e : Int) (hm : m ≤ 9007199254740992) : scB m e ≤ 9218868437227405312 := by
  unfold scB
  split
  · split <;> omega
  · split
    · omega
    · split <;> omega
theorem rdB_le (N : Nat) : rdB N ≤ 9218868437227405312 := by
  unfold rdB
  split
  · omega
  · refine scB_le _ _ ?_
    have h1 := rnd_le N (lowR N)
    have h2 : N / 2 ^ lowR N < 9007199254740992 := top_small (lenN_lt N) (by unfold lowR; omega)
    omega
theorem neg_up {b : Nat} (h : b < 9223372036854775808) : Op.negFloat .f64 b = b + 9223372036854775808 := by
  have h1 := neg_bits (b := b + 9223372036854775808) (by omega) (by omega)
  rw [Nat.add_sub_cancel] at h1
  have h2 : Op.negFloat .f64 (Op.negFloat .f64 (b + 9223372036854775808)) = b + 9223372036854775808 := by
    show ((b + 9223372036854775808) ^^^ 2 ^ 63) ^^^ 2 ^ 63 = _
    rw [Nat.xor_assoc, Nat.xor_self, Nat.xor_zero]
  rw [h1] at h2
  exact h2
/-- The sum as a float; all: nothing but -0 was summed. -/
def outB (V : Int) (all : Bool) : Nat := if V = 0 ∧ all = true then 9223372036854775808 else if V < 0 then rdB V.natAbs + 9223372036854775808 else rdB V.natAbs
attribute [local go_sem] rowB_size stB isRow_at isRow_past rowIn_at rowIn_past setRow_at setRow_past
set_option maxRecDepth 100000 in
set_option maxHeartbeats 1000000 in
theorem out_any (f : Nat → Int) (all : Bool) (w : World) (hf : ∀ j, -1152921504606846976 ≤ f j ∧ f j ≤ 1152921504606846976) (hV : (bigV f 280).natAbs < 65536 ^ 280) :
    Calls Try.prog 62 #[.agg (rowB f), .bool all] w fun e w' => e = .returned (.float .f64 (outB (bigV f 280) all)) ∧ Below w.heap.size w w' := by
  obtain ⟨hz, hi⟩ := zero_of_info info62
  clear hi
  have x10 := ext10
  have k64 : Hid (∀ w', Calls Try.prog 77 #[.agg (rowB f)] w' fun e w'' => ∃ U : Nat → Nat, e = .returned (.tuple #[.agg (rowB fun j => ((U j : Nat) : Int)), .int .i64 (sgnI (bigV f 280))]) ∧ ((∀ j, j < 280 → U j < 65536) ∧ bigN U 280 = (bigV f 280).natAbs) ∧ Below w'.heap.size w' w'') := fun w' => settled_any f w' hf hV
  clear hf hV
  generalize bigV f 280 = V at *
  have hbk : Hid (Bk (w.alloc (.cells (rowB f) 75)) w.heap.size f) := Bk.new _ _
  have BB : Hid (Below w.heap.size w (w.alloc (.cells (rowB f) 75))) := (Below.refl _ _).alloc (Nat.le_refl _) _
  have hrl := rdB_le V.natAbs
  have hneg := neg_up (b := rdB V.natAbs) (by omega)
  obtain ⟨R, hR⟩ : ∃ R, rdB V.natAbs = R := ⟨_, rfl⟩
  rw [hR] at hneg
  clear hrl
  go_enter Try.func62, Try.ntmps62
  go_wp2_with (refine wpList_ld rfl 75 _ rfl w.heap.size rfl 280 Try.underlying75 rfl (by kernel_rfl) (rowB f) hbk.out.isRow hbk.out.rowIn ?_)
  refine (k64.out _).mono ?_
  rintro e w1 ⟨U, rfl, ⟨hU1, hU2⟩, b1⟩
  have bb1 : Hid (Below w.heap.size w w1) := BB.out.trans (b1.mono (by simp))
  have k65 : Hid (∀ w', Calls Try.prog 97 #[.agg (rowB fun j => ((U j : Nat) : Int))] w' fun e w'' => e = .returned (.float .f64 R) ∧ Below w'.heap.size w' w'') := fun w' => by
    have := rounded_doc U w' hU1
    rw [hU2, hR] at this
    exact this
  have bk2 : Hid (Bk (w1.alloc (.cells (rowB fun j => ((U j : Nat) : Int)) 75)) w1.heap.size fun j => ((U j : Nat) : Int)) := Bk.new _ _
  have bb2 : Hid (Below w.heap.size w (w1.alloc (.cells (rowB fun j => ((U j : Nat) : Int)) 75))) := bb1.out.alloc bb1.out.size _
  have hld := ld62 bk2.out
  have hst := stB fun j => ((U j : Nat) : Int)
  have hsz := rowB_size fun j => ((U j : Nat) : Int)
  clear hU1 hU2 b1 k64 hbk BB bb1 bk2
  generalize (rowB fun j => ((U j : Nat) : Int)) = RU at *
  by_cases c1 : V < 0
  · have e1 : sgnI V = -1 := by unfold sgnI; rw [if_pos c1]
    have e2 : Hid (outB V all = R + 9223372036854775808) := by show outB V all = _; unfold outB; rw [if_neg (by omega), if_pos c1, hR]
    rw [e1]
    clear e1 hR
    go_wp2_with fail
    refine oper_ld 75 _ rfl w1.heap.size rfl _ hld ?_
    go_wp2_with fail
    refine (k65.out _).mono ?_
    rintro e w2 ⟨rfl, b2⟩
    have bb3 : Hid (Below w.heap.size w w2) := bb2.out.trans (b2.mono bb2.out.size)
    clear b2 bb2 k65
    go_wp2_with (refine wpList_neg rfl .f64 22 _ rfl R _ rfl hneg ?_)
    go_ret
    exact ⟨by rw [e2.out]; rfl, bb3.out⟩
  · by_cases c2 : V = 0
    · have e1 : sgnI V = 0 := by unfold sgnI; rw [if_neg c1, if_pos c2]
      cases all
      · have e2 : Hid (outB V false = R) := by show outB V false = _; unfold outB; rw [if_neg (by simp), if_neg c1, hR]
        rw [e1]
        clear e1 hR
        go_wp2_with fail
        refine oper_ld 75 _ rfl w1.heap.size rfl _ hld ?_
        go_wp2_with fail
        refine (k65.out _).mono ?_
        rintro e w2 ⟨rfl, b2⟩
        have bb3 : Hid (Below w.heap.size w w2) := bb2.out.trans (b2.mono bb2.out.size)
        clear b2 bb2 k65
        go_wp2
        go_ret
        exact ⟨by rw [e2.out]; rfl, bb3.out⟩
      · have e2 : Hid (outB V true = 9223372036854775808) := by show outB V true = _; unfold outB; rw [if_pos ⟨c2, rfl⟩]
        rw [e1]
        clear e1 hR
        go_wp2
        go_ret
        exact ⟨by rw [e2.out]; rfl, bb2.out⟩
    · have e1 : sgnI V = 1 := by unfold sgnI; rw [if_neg c1, if_neg c2]
      have e2 : Hid (outB V all = R) := by show outB V all = _; unfold outB; rw [if_neg (fun h => c2 h.1), if_neg c1, hR]
      rw [e1]
      clear e1 hR
      go_wp2_with fail
      refine oper_ld 75 _ rfl w1.heap.size rfl _ hld ?_
      go_wp2_with fail
      refine (k65.out _).mono ?_
      rintro e w2 ⟨rfl, b2⟩
      have bb3 : Hid (Below w.heap.size w w2) := bb2.out.trans (b2.mono bb2.out.size)
      clear b2 bb2 k65
      go_wp2
      go_ret
      exact ⟨by rw [e2.out]; rfl, bb3.out⟩
end Go.Proofs.Ytdhfkdopcphjlab
