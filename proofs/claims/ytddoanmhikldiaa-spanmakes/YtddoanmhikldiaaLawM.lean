/-
  What the statement of Make and Is asks, walked. Conditions: the numbers fit; the list takes no more bytes than there are.
-/
import Derived.Test.YtddoanmhikldiaaRm
import Derived.Test.YtddoanmhikldiaaAl
import Derived.Test.YtddoanmhikldiaaRi
namespace Go.Proofs.Ytddoanmhikldiaa
open Go.RowKit
set_option maxRecDepth 100000 in
set_option maxHeartbeats 1000000 in
theorem law_makes (L : List Sn) (v : Value) (w : World) (hr : RdS w v L) (hf : fitS L) (hl : L.length ≤ 17592186044416) : Calls Try.prog 3 #[v] w fun e w' => e = .returned (.bool true) ∧ Below w.heap.size w w' := by
  have HR : Hid (RdS w v L) := hr
  have HF : Hid (fitS L) := hf
  clear hr hf
  go_enter Try.func3, Try.ntmps3
  go_wp2_with fail
  refine (given_any L v w HR.out hl).mono ?_
  rintro e w1 ⟨vt, rfl, O1, B1⟩
  have HO1 : Hid (w1.ownsRow w.heap.size 58 2 vt L.length (celS L)) := O1
  have HB1 : Hid (Below w.heap.size w w1) := B1
  clear O1 B1
  go_wp2_with fail
  refine (make_any L v w1 (HR.out.below HB1.out) (by omega)).mono ?_
  rintro e w2 ⟨va, X, i, er, rfl, O2, P2, B2⟩
  have HO2 : Hid (w2.ownsRow w1.heap.size 57 2 va X.length (celS X)) := O2
  have HB2 : Hid (Below w1.heap.size w1 w2) := B2
  have HP2 : Hid (MakeP L X i er) := P2
  clear O2 B2 P2
  go_wp2_with fail
  refine (rmake_any L vt w2 ((RdS.of_owns HO1.out).below HB2.out) (by omega)).mono ?_
  rintro e w3 ⟨vb, X', i', er', rfl, O3, P3, B3⟩
  obtain ⟨rfl, rfl, rfl⟩ := makeP_uniq HP2.out P3
  have HO3 : Hid (RdS w3 vb X) := RdS.of_owns O3
  have HRa : Hid (RdS w3 va X) := (RdS.of_owns HO2.out).below B3
  have HB3 : Hid (Below w2.heap.size w2 w3) := B3
  have HB13 : Hid (Below w1.heap.size w1 w3) := HB2.out.trans (B3.mono HB2.out.size)
  have HB03 : Hid (Below w.heap.size w w3) := HB1.out.trans (HB13.out.mono HB1.out.size)
  have HRt : Hid (RdS w3 vt L) := (RdS.of_owns HO1.out).below HB13.out
  have HRv : Hid (RdS w3 v L) := HR.out.below HB03.out
  have hX : Hid (X.length ≤ 35184372088832) := by
    rcases HP2.out with ⟨_, rfl, _⟩ | ⟨_, _, _, _, _, rfl, _⟩ | ⟨_, _, h, _⟩
    · simp [Hid]
    · simp [Hid]
    · have := HO2.out.1
      have hc := cnt_bound h
      have hlen : ∀ {l : List Sn} {m : Int}, isS m l = true → (l.length : Int) ≤ cntL l := by
        intro l
        induction l with
        | nil => intro m _; simp [cntL]
        | cons s l ih =>
          intro m h
          rw [isS_cons] at h
          have h1 := may_iff.1 h.1
          have h2 := ih h.2.2
          rw [cnt_cons]; simp only [List.length_cons, szI]; omega
      have := hlen h
      rw [Hid]; omega
  clear O3 B3 P3 HP2 HO1 HO2 HR HB2 HB13 HB1 HB3
  go_wp2_with fail
  refine (awake_any w3).mono ?_
  rintro e w4 ⟨rfl, B4⟩
  have HB4 : Hid (Below w3.heap.size w3 w4) := B4
  clear B4
  go_wp2_with fail
  refine (alike_any X X va vb w4 (HRa.out.below HB4.out) (HO3.out.below HB4.out) hX.out hX.out).mono ?_
  rintro e w5 ⟨rfl, B5⟩
  rw [decide_eq_true rfl]
  have HB5 : Hid (Below w3.heap.size w3 w5) := HB4.out.trans (B5.mono HB4.out.size)
  clear B5 HB4 HO3 HRa
  go_wp2_with fail
  refine (is_any L v w5 (HRv.out.below HB5.out) HF.out (by omega)).mono ?_
  rintro e w6 ⟨rfl, B6⟩
  have HB6 : Hid (Below w3.heap.size w3 w6) := HB5.out.trans (B6.mono HB5.out.size)
  clear B6 HB5
  go_wp2_with fail
  refine (ris_any L vt w6 (HRt.out.below HB6.out) HF.out (by omega)).mono ?_
  rintro e w7 ⟨rfl, B7⟩
  have HB7 : Hid (Below w3.heap.size w3 w7) := HB6.out.trans (B7.mono HB6.out.size)
  clear B7 HB6
  generalize isB L = bl
  go_wp2_with fail
  refine (alike_any L L v vt w7 (HRv.out.below HB7.out) (HRt.out.below HB7.out) (by omega) (by omega)).mono ?_
  rintro e w8 ⟨rfl, B8⟩
  rw [decide_eq_true rfl]
  have HB8 : Hid (Below w.heap.size w w8) := HB03.out.trans ((HB7.out.trans (B8.mono HB7.out.size)).mono HB03.out.size)
  clear B8 HB7
  go_wp2
  go_ret
  exact ⟨rfl, HB8.out⟩
end Go.Proofs.Ytddoanmhikldiaa
