/-
  The law LineFields, out of what Sequence answers.
-/
import Derived.Test.YtcjlplaepnpopaaDoorRg
import Derived.Test.YtcjlplaepnpopaaDoorRw
import Derived.Test.YtcjlplaepnpopaaDoorAw
import Derived.Test.YtcjlplaepnpopaaDoorSq
import Derived.Laws.Cover4
import Derived.OwnWalk
namespace Go.Proofs.YtcjlplaepnpopaaDoor
open Go.RowKit
theorem conv_rds {w : World} {v : Value} {zs : List Int} (h : Rds .i32 w v zs) : (convert 33 9 v).run Tryd.prog w = .ok (.string (runesBytes zs)) w := by
  obtain ⟨a, c, rfl, ha⟩ := h
  by_cases h0 : 0 < zs.length
  · obtain ⟨b, off, rfl, hc⟩ := ha h0
    have := run_convert_runes (P := Tryd.prog) w 33 9 21 ⟨b, off, none⟩ zs.length c zs (Nat.le_refl _) Tryd.underlying33 Tryd.underlying21 Tryd.underlying9 (fun j hj => by
      have e : (⟨b, off, none⟩ : Addr).add j = ⟨b, off + j, none⟩ := by unfold Addr.add; split <;> simp_all
      rw [e]
      exact hc j hj)
    rw [List.take_length] at this
    exact this
  · obtain rfl : zs = [] := List.length_eq_zero_iff.1 (by omega)
    cases a with
    | none => exact run_convert_runes_nil (P := Tryd.prog) w 33 9 21 _ c Tryd.underlying33 Tryd.underlying21 Tryd.underlying9
    | some a =>
      exact run_convert_runes (P := Tryd.prog) w 33 9 21 a 0 c [] (Nat.le_refl _) Tryd.underlying33 Tryd.underlying21 Tryd.underlying9 (fun j hj => by simp at hj)
def SqN : List Int ⊕ Nat → List Int × Int × Int
  | .inl o => (o, 0, 0)
  | .inr k => ([], (k : Int), 90)
theorem sq_form {r : List Int ⊕ Nat} {e : Ending} {w : World} (h : SqIs r e w) : ∃ v, e = .returned (.tuple #[v, .int .i64 (SqN r).2.1, .int .i64 (SqN r).2.2]) ∧ Rds .i32 w v (SqN r).1 := by
  obtain ⟨v, h⟩ := h
  cases r with
  | inl o => exact ⟨v, h.1, h.2⟩
  | inr k => exact ⟨v, h.1, h.2⟩
theorem whA_fst : ∀ r : Option Int, ∃ n c : Int, whA r = .returned (.tuple #[.int .i64 n, .int .i64 c])
  | none => ⟨0, 92, rfl⟩
  | some n => ⟨n, 0, rfl⟩
/-- Memory that the law leaves alone, and the span that it keeps. -/
def Bx (O B : Nat) (a b : Int) (w w2 : World) : Prop := Below O w w2 ∧ B < w2.heap.size ∧ w2.cell? ⟨B, 0, none⟩ = some (.int .i32 a) ∧ w2.cell? ⟨B, 1, none⟩ = some (.int .i32 b)
theorem Bx.step {O B : Nat} {a b : Int} {w w2 w3 : World} (h : Bx O B a b w w2) (hO : O ≤ w2.heap.size) (hb : Below w2.heap.size w2 w3) : Bx O B a b w w3 :=
  ⟨h.1.trans (hb.mono hO), Nat.lt_of_lt_of_le h.2.1 hb.size, (hb.cell (p := ⟨B, 0, none⟩) h.2.1).trans h.2.2.1, (hb.cell (p := ⟨B, 1, none⟩) h.2.1).trans h.2.2.2⟩
set_option maxRecDepth 100000 in
set_option maxHeartbeats 8000000 in
theorem law_fields (s : ByteArray) (m : Int) (w : World) (hs : s.size < 4294967281) (hm : w.cell? ⟨0, 0, none⟩ = some (.int .i64 m)) (h0 : 0 < w.heap.size)
    (hseq : ∀ w1, Below w.heap.size w w1 → Calls Tryd.prog 9 #[.string s] w1 fun e w' => SqIs (sq s) e w' ∧ Below w1.heap.size w1 w') : Calls Tryd.prog 3 #[.string s] w fun e w' => e = .returned (.bool true) ∧ Below w.heap.size w w' := by
  obtain ⟨n1, c1, h1⟩ := ptA_fst (ptN s)
  obtain ⟨n2, c2, h2⟩ := whA_fst (whN s)
  have k5 := fun w => point_any s w (by omega)
  have k6 := fun w => rpoint_any s w
  have k7 := fun w1 (hb : Below w.heap.size w w1) => range_any s m w1 hs ((hb.cell (p := ⟨0, 0, none⟩) h0).trans hm) (Nat.lt_of_lt_of_le h0 hb.size)
  have k8 := fun w => rrange_any s w (by omega)
  have k10 := fun w => rseq_any s w (by omega)
  have k11 := fun w => whole_any s w (by omega)
  have k12 := fun w => rwhole_any s w
  have k13 := fun w => awake_any w
  rw [h1] at k5 k6
  rw [h2] at k11 k12
  obtain ⟨⟨L, n3, c3⟩, hG⟩ : ∃ r, SqN (sq s) = r := ⟨_, rfl⟩
  have HG : Hid (SqN (sq s) = (L, n3, c3)) := hG
  have HSQ : Hid (∀ w1, Below w.heap.size w w1 → Calls Tryd.prog 9 #[.string s] w1 fun e w' => SqIs (sq s) e w' ∧ Below w1.heap.size w1 w') := hseq
  have K7 : Hid (∀ w1, Below w.heap.size w w1 → Calls Tryd.prog 7 #[.string s] w1 fun e w' => ∃ a b c, RgR s a b c ∧ e = .returned (.tuple #[.agg #[.int .i32 a, .int .i32 b], .int .i64 c]) ∧ Below w1.heap.size w1 w') := k7
  clear hseq hG h1 h2 k7 hs hm h0
  go_enter Tryd.func3, Tryd.ntmps3
  go_wp2_with (go_at_call 5; refine (k5 _).mono ?_)
  rintro e w1 ⟨rfl, hw⟩
  rw [hw]
  clear hw k5
  go_wp2_with (go_at_call 6; refine (k6 _).mono ?_)
  rintro e w2 ⟨rfl, b2⟩
  have HB2 : Hid (Below w.heap.size w w2) := b2
  clear b2 k6
  go_wp2_with (go_at_call 7; refine (K7.out _ HB2.out).mono ?_)
  rintro e w3 ⟨a, b, c, hr, rfl, b3⟩
  have HR : Hid (RgR s a b c) := hr
  have HB3 : Hid (Below w.heap.size w w3) := HB2.out.trans (b3.mono HB2.out.size)
  clear hr b3 K7 HB2
  go_wp2_with (go_at_call 8; refine (k8 _).mono ?_)
  rintro e w4 ⟨he, b4⟩
  obtain ⟨x, y, z, hr2, rfl⟩ := he.parts
  obtain ⟨rfl, rfl, rfl⟩ := HR.out.one hr2
  have hn := heap_new w3 (.cells #[.int .i32 a, .int .i32 b] 28)
  have b4' := b4
  obtain ⟨W4, hW4⟩ : ∃ W4, w3.alloc (.cells #[.int .i32 a, .int .i32 b] 28) = W4 := ⟨_, rfl⟩
  have hB4 : Below w.heap.size w W4 := by rw [← hW4]; exact HB3.out.alloc HB3.out.size _
  rw [hW4] at hn b4'
  have H4 : Hid (Bx w.heap.size w3.heap.size a b w w4) := Bx.step (w2 := W4) ⟨hB4, (Array.getElem?_eq_some_iff.1 hn).1, by simp [World.cell?, hn], by simp [World.cell?, hn]⟩ hB4.size b4'
  obtain ⟨O3, hO3⟩ : ∃ O3, w3.heap.size = O3 := ⟨_, rfl⟩
  rw [hO3] at H4 ⊢
  clear he hr2 b4 b4' k8 HB3 HR hO3 hn hB4 hW4
  go_wp2_with (go_at_call 9; refine (HSQ.out _ H4.out.1).mono ?_)
  rintro e w5 ⟨he, b5⟩
  obtain ⟨v5, rfl, hr5⟩ := sq_form he
  have H5 : Hid (Bx w.heap.size O3 a b w w5) := H4.out.step H4.out.1.size b5
  rw [HG.out] at hr5
  have R5 : Hid (Rds .i32 w5 v5 L) := hr5
  simp only [HG.out]
  clear he b5 hr5 HSQ H4
  go_wp2_with (go_at_call 10; refine (k10 _).mono ?_)
  rintro e w6 ⟨he, b6⟩
  obtain ⟨v6, rfl, hr6⟩ := sq_form he
  have H6 : Hid (Bx w.heap.size O3 a b w w6) := H5.out.step H5.out.1.size b6
  rw [HG.out] at hr6
  have R6 : Hid (Rds .i32 w6 v5 L) := R5.out.below b6
  have R6' : Hid (Rds .i32 w6 v6 L) := hr6
  simp only [HG.out]
  clear he b6 hr6 k10 H5 R5
  go_wp2_with (go_at_call 11; refine (k11 _).mono ?_)
  rintro e w7 ⟨rfl, hw⟩
  rw [hw]
  clear hw k11
  go_wp2_with (go_at_call 12; refine (k12 _).mono ?_)
  rintro e w8 ⟨rfl, hw⟩
  rw [hw]
  clear hw k12
  have d0 := H6.out.2.2.1
  have d1 := H6.out.2.2.2
  have v1 := conv_rds R6.out
  have v2 := conv_rds R6'.out
  have s1 : ∃ p q, v5 = .slice p L.length q := by obtain ⟨p, q, e, -⟩ := R6.out; exact ⟨p, q, e⟩
  have s2 : ∃ p q, v6 = .slice p L.length q := by obtain ⟨p, q, e, -⟩ := R6'.out; exact ⟨p, q, e⟩
  obtain ⟨p5, q5, rfl⟩ := s1
  obtain ⟨p6, q6, rfl⟩ := s2
  go_wp2_with (go_at_call 13; refine (k13 _).mono ?_)
  rintro e w9 ⟨rfl, hw⟩
  rw [hw]
  clear hw k13
  go_wp2
  exact bodyPost_ret (v := .bool true) (by simp [results, Tryd.results3, go_sem]) rfl ⟨rfl, H6.out.1⟩
end Go.Proofs.YtcjlplaepnpopaaDoor
