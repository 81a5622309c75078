/-
  What the statement of Exact and Mean asks: it is true. Conditions: the floats' bits fit; the list takes no more bytes than there are.
-/
import Derived.Test.YtdhfkdopcphjlaaBt
namespace Go.Proofs.Ytdhfkdopcphjlaa
open Go.RowKit
set_option maxRecDepth 100000 in
set_option maxHeartbeats 1000000 in
theorem lawE_long (n c : Nat) (p : Option Addr) (w : World) (hn : 65536 < n) (hn2 : n ≤ 140737488355328) : Calls Try.prog 5 #[.slice p n c] w fun e w' => e = .returned (.bool true) ∧ Below w.heap.size w w' := by
  have h1 : ((n : Nat) : Int) > 65536 := by omega
  go_enter Try.func5, Try.ntmps5
  go_wp2_with fail
  refine (awake_any _).mono ?_
  rintro e w1 ⟨rfl, b1⟩
  go_wp2
  go_ret
  exact ⟨rfl, b1⟩
set_option maxRecDepth 100000 in
set_option maxHeartbeats 1000000 in
theorem law_exact (bs : List Nat) (v : Value) (w : World) (hb : ∀ b ∈ bs, b < 18446744073709551616) (hl : 8 * bs.length ≤ 140737488355328) (hr : Rd w v (flt bs)) : Calls Try.prog 5 #[v] w fun e w' => e = .returned (.bool true) ∧ Below w.heap.size w w' := by
  by_cases hlen : bs.length ≤ 65536
  · have hv : ∃ p c, v = .slice p bs.length c := by obtain ⟨p, c, rfl, -⟩ := hr; exact ⟨p, c, by rw [flt_len]⟩
    obtain ⟨p, c, rfl⟩ := hv
    have hl2 : (bs.length : Int) ≤ 65536 := by omega
    have HL : Hid (bs.length ≤ 65536) := hlen
    clear hl hlen
    replace hr : Hid (Rd w (.slice p bs.length c) (flt bs)) := hr
    replace hb : Hid (∀ b ∈ bs, b < 18446744073709551616) := hb
    have k15 := fun w => same_any (exB bs) (rxB bs) w (same_by (ex_is bs) (rx_is bs))
    by_cases h0 : bs.length = 0
    · rw [h0] at hr hl2 ⊢
      have k26 := mean_nil p c
      go_enter Try.func5, Try.ntmps5
      go_wp2_with fail
      refine (exact_any bs _ w hb.out HL.out hr.out).mono ?_
      rintro e w1 ⟨rfl, b1⟩
      have B1 : Hid (Below w.heap.size w w1) := b1
      have hr1 : Hid (Rd w1 (.slice p (0 : Nat) c) (flt bs)) := hr.out.below b1
      clear b1 hr
      go_wp2_with fail
      refine (k26 _).mono ?_
      rintro e w2 ⟨rfl, rfl⟩
      go_wp2_with fail
      refine (awake_any _).mono ?_
      rintro e w3 ⟨rfl, b3⟩
      have B3 : Hid (Below w.heap.size w w3) := B1.out.trans (b3.mono B1.out.size)
      have hr3 : Hid (Rd w3 (.slice p (0 : Nat) c) (flt bs)) := hr1.out.below b3
      clear b3 hr1 B1
      go_wp2_with fail
      refine (rexact_any bs _ w3 hb.out HL.out hr3.out).mono ?_
      rintro e w4 ⟨rfl, b4⟩
      have B4 : Hid (Below w.heap.size w w4) := B3.out.trans (b4.mono B3.out.size)
      clear b4 hr3 B3
      go_wp2_with fail
      refine (k15 _).mono ?_
      rintro e w5 ⟨rfl, rfl⟩
      go_wp2
      go_ret
      exact ⟨rfl, B4.out⟩
    · have h1 : ((bs.length : Int) == 0) = false := beq_eq_false_iff_ne.2 (by omega)
      have h0' : Hid (0 < bs.length) := Nat.pos_of_ne_zero h0
      clear h0
      go_enter Try.func5, Try.ntmps5
      go_wp2_with fail
      refine (exact_any bs _ w hb.out HL.out hr.out).mono ?_
      rintro e w1 ⟨rfl, b1⟩
      have B1 : Hid (Below w.heap.size w w1) := b1
      have hr1 : Hid (Rd w1 (.slice p bs.length c) (flt bs)) := hr.out.below b1
      clear b1 hr
      go_wp2_with fail
      refine (mean_any bs _ w1 hb.out HL.out h0'.out hr1.out).mono ?_
      rintro e w2 ⟨r1, rfl, f1, b2⟩
      have i1 : Hid (Is r1 (fop .quo (exO bs) (inj (floatOfInt .f64 (bs.length : Int))))) := (ex_is bs).op (len_is _) f1
      have B2 : Hid (Below w.heap.size w w2) := B1.out.trans (b2.mono B1.out.size)
      have hr2 : Hid (Rd w2 (.slice p bs.length c) (flt bs)) := hr1.out.below b2
      clear b2 hr1 B1 f1
      go_wp2_with fail
      refine (awake_any _).mono ?_
      rintro e w3 ⟨rfl, b3⟩
      have B3 : Hid (Below w.heap.size w w3) := B2.out.trans (b3.mono B2.out.size)
      have hr3 : Hid (Rd w3 (.slice p bs.length c) (flt bs)) := hr2.out.below b3
      clear b3 hr2 B2
      go_wp2_with fail
      refine (rexact_any bs _ w3 hb.out HL.out hr3.out).mono ?_
      rintro e w4 ⟨rfl, b4⟩
      have B4 : Hid (Below w.heap.size w w4) := B3.out.trans (b4.mono B3.out.size)
      have hr4 : Hid (Rd w4 (.slice p bs.length c) (flt bs)) := hr3.out.below b4
      clear b4 hr3 B3
      go_wp2_with fail
      refine (k15 _).mono ?_
      rintro e w5 ⟨rfl, rfl⟩
      go_wp2_with fail
      refine (rmean_any bs _ _ hb.out HL.out hr4.out).mono ?_
      rintro e w6 ⟨r2, rfl, f2, b6⟩
      have i2 : Hid (Is r2 (fop .quo (exO bs) (inj (floatOfInt .f64 (bs.length : Int))))) := (rx_is bs).op (len_is _) f2
      have B6 : Hid (Below w.heap.size w w6) := B4.out.trans (b6.mono B4.out.size)
      clear b6 hr4 B4 f2
      go_wp2_with fail
      refine (same_any r1 r2 _ (same_by i1.out i2.out)).mono ?_
      rintro e w7 ⟨rfl, rfl⟩
      go_wp2
      go_ret
      exact ⟨rfl, B6.out⟩
  · obtain ⟨p, c, rfl, -⟩ := hr
    rw [flt_len]
    exact lawE_long bs.length c p w (by omega) (by omega)
end Go.Proofs.Ytdhfkdopcphjlaa
