/-
  What the statement of Kept, Two and Split asks: it is true. Conditions: the floats' bits fit; the list takes no more bytes than there are.
-/
import Derived.Test.YtdhfkdopcphjlaaFd
namespace Go.Proofs.Ytdhfkdopcphjlaa
open Go.RowKit
set_option maxRecDepth 100000 in
set_option maxHeartbeats 1000000 in
theorem lawK_long (n c a b : Nat) (p : Option Addr) (w : World) (hn : 65536 < n) (hn2 : n ≤ 140737488355328) : Calls Try.prog 4 #[.slice p n c, .float .f64 a, .float .f64 b] w fun e w' => e = .returned (.bool true) ∧ Below w.heap.size w w' := by
  have h1 : ((n : Nat) : Int) > 65536 := by omega
  go_enter Try.func4, Try.ntmps4
  go_wp2_with fail
  refine (awake_any _).mono ?_
  rintro e w1 ⟨rfl, b1⟩
  go_wp2
  go_ret
  exact ⟨rfl, b1⟩
set_option maxRecDepth 100000 in
set_option maxHeartbeats 1000000 in
theorem law_keeps (bs : List Nat) (v : Value) (a b : Nat) (w : World) (hb : ∀ b ∈ bs, b < 18446744073709551616) (hl : 8 * bs.length ≤ 140737488355328) (hr : Rd w v (flt bs)) (ha : a < 18446744073709551616) (hbb : b < 18446744073709551616) : Calls Try.prog 4 #[v, .float .f64 a, .float .f64 b] w fun e w' => e = .returned (.bool true) ∧ Below w.heap.size w w' := by
  by_cases hlen : bs.length ≤ 65536
  · have hv : ∃ p c, v = .slice p bs.length c := by obtain ⟨p, c, rfl, -⟩ := hr; exact ⟨p, c, by rw [flt_len]⟩
    obtain ⟨p, c, rfl⟩ := hv
    have hl2 : (bs.length : Int) ≤ 65536 := by omega
    replace hr : Hid (Rd w (.slice p bs.length c) (flt bs)) := hr
    replace hb : Hid (∀ b ∈ bs, b < 18446744073709551616) := hb
    have iA : Hid (Is a (inj a)) := is_inj ha
    have iB : Hid (Is b (inj b)) := is_inj hbb
    go_enter Try.func4, Try.ntmps4
    go_wp2_with fail
    refine (kept_any bs _ w hb.out hlen hr.out).mono ?_
    rintro e w1 ⟨r1, s1, rfl, i1, j1, a1⟩
    replace i1 : Hid (Is r1 (fop .add (kAll bs).1 (kAll bs).2)) := i1
    replace j1 : Hid (Is s1 (kAll bs).2) := j1
    have B1 : Hid (Below w.heap.size w w1) := a1.below _
    have hr1 : Hid (Rd w1 (.slice p bs.length c) (flt bs)) := hr.out.below (a1.below _)
    clear a1 hr
    go_wp2_with fail
    refine (rkept_any bs _ w1 hb.out hlen hr1.out).mono ?_
    rintro e w2 ⟨r2, s2, rfl, i2, j2, a2⟩
    replace i2 : Hid (Is r2 (fop .add (kAll bs).1 (kAll bs).2)) := i2
    replace j2 : Hid (Is s2 (kAll bs).2) := j2
    have B2 : Hid (Below w.heap.size w w2) := B1.out.trans ((a2.below _).mono B1.out.size)
    clear a2 hr1 B1
    go_wp2_with fail
    refine (two_any a b _ _ w2 iA.out iB.out).mono ?_
    rintro e w3 ⟨r3, s3, rfl, i3, j3, a3⟩
    replace i3 : Hid (Is r3 (twS (inj a) (inj b))) := i3
    replace j3 : Hid (Is s3 (twL (inj a) (inj b))) := j3
    have B3 : Hid (Below w.heap.size w w3) := B2.out.trans ((a3.below _).mono B2.out.size)
    clear a3 B2
    go_wp2_with fail
    refine (rtwo_any a b _ _ w3 iA.out iB.out).mono ?_
    rintro e w4 ⟨r4, s4, rfl, i4, j4, a4⟩
    replace i4 : Hid (Is r4 (twS (inj a) (inj b))) := i4
    replace j4 : Hid (Is s4 (twL (inj a) (inj b))) := j4
    have B4 : Hid (Below w.heap.size w w4) := B3.out.trans ((a4.below _).mono B3.out.size)
    clear a4 B3
    go_wp2_with fail
    refine (split_any a _ w4 iA.out).mono ?_
    rintro e w5 ⟨r5, s5, rfl, i5, j5, a5⟩
    replace i5 : Hid (Is r5 (spU (inj a))) := i5
    replace j5 : Hid (Is s5 (spL (inj a))) := j5
    have B5 : Hid (Below w.heap.size w w5) := B4.out.trans ((a5.below _).mono B4.out.size)
    clear a5 B4
    go_wp2_with fail
    refine (rsplit_any a _ w5 iA.out).mono ?_
    rintro e w6 ⟨r6, s6, rfl, i6, j6, a6⟩
    replace i6 : Hid (Is r6 (spU (inj a))) := i6
    replace j6 : Hid (Is s6 (spL (inj a))) := j6
    have B6 : Hid (Below w.heap.size w w6) := B5.out.trans ((a6.below _).mono B5.out.size)
    clear a6 B5
    go_wp2_with fail
    refine (awake_any _).mono ?_
    rintro e w7 ⟨rfl, b7⟩
    have B7 : Hid (Below w.heap.size w w7) := B6.out.trans (b7.mono B6.out.size)
    clear b7 B6
    go_wp2_with fail
    refine (same_any r1 r2 _ (same_by i1.out i2.out)).mono ?_
    rintro e w8 ⟨rfl, rfl⟩
    go_wp2_with fail
    refine (same_any s1 s2 _ (same_by j1.out j2.out)).mono ?_
    rintro e w8 ⟨rfl, rfl⟩
    go_wp2_with fail
    refine (same_any r3 r4 _ (same_by i3.out i4.out)).mono ?_
    rintro e w8 ⟨rfl, rfl⟩
    go_wp2_with fail
    refine (same_any s3 s4 _ (same_by j3.out j4.out)).mono ?_
    rintro e w8 ⟨rfl, rfl⟩
    go_wp2_with fail
    refine (same_any r5 r6 _ (same_by i5.out i6.out)).mono ?_
    rintro e w8 ⟨rfl, rfl⟩
    go_wp2_with fail
    refine (same_any s5 s6 _ (same_by j5.out j6.out)).mono ?_
    rintro e w8 ⟨rfl, rfl⟩
    go_wp2
    go_ret
    exact ⟨rfl, B7.out⟩
  · obtain ⟨p, c, rfl, -⟩ := hr
    rw [flt_len]
    exact lawK_long bs.length c a b p w (by omega) (by omega)
end Go.Proofs.Ytdhfkdopcphjlaa
