/-
  The contract of the document's Between: the stretches from one code point to another one; stage's Runs of what are none. Conditions: the rows rise and are no more than 65536; the two are no less than 0 and no more than 1114111.
-/
import Derived.Test.YtookbgmolggohabNe
import Derived.Test.YtookbgmolggohabNa
namespace Go.Proofs.Ytookbgmolggohab
open Go.RowKit
theorem pt_no {p : Int} (h : ¬ (0 ≤ p ∧ p ≤ 1114111)) : (decide (0 ≤ p) && decide (p ≤ 1114111)) = false := by
  cases h1 : decide (0 ≤ p) with
  | false => rfl
  | true => exact decide_eq_false (fun h2 => h ⟨of_decide_eq_true h1, h2⟩)
theorem pt_yes {p : Int} (h : 0 ≤ p ∧ p ≤ 1114111) : (decide (0 ≤ p) && decide (p ≤ 1114111)) = true := by
  rw [decide_eq_true h.1, decide_eq_true h.2]; rfl
set_option maxRecDepth 100000 in
set_option maxHeartbeats 1000000 in
theorem sruns_bad (vt : Value) (A E : Int) (w : World) (h : ¬ (0 ≤ A ∧ A ≤ E ∧ E ≤ 1114111)) : Calls Try.prog 33 #[vt, .int .i32 A, .int .i32 E] w fun e w' => e = .returned (.slice none 0 0) ∧ Below w.heap.size w w' := by
  have K1 := point_any A w
  have K2 : Hid (∀ w1, Calls Try.prog 64 #[.int .i32 E] w1 fun e w' => e = .returned (.bool (decide (0 ≤ E) && decide (E ≤ 1114111))) ∧ Below w1.heap.size w1 w') := fun w1 => point_any E w1
  by_cases h1 : 0 ≤ A ∧ A ≤ 1114111
  · rw [pt_yes h1] at K1
    replace K1 : Hid (Calls Try.prog 64 #[.int .i32 A] w fun e w' => e = .returned (.bool true) ∧ Below w.heap.size w w') := K1
    by_cases h2 : 0 ≤ E ∧ E ≤ 1114111
    · rw [pt_yes h2] at K2
      have h3 : decide (E < A) = true := decide_eq_true (by omega)
      clear h h1 h2
      go_enter Try.func33, Try.ntmps33
      go_wp2_with (go_at_call 64; refine K1.out.mono ?_)
      intro e w1 hq
      first | (obtain ⟨rfl, b1⟩ : _ ∧ _ := hq) | (subst hq; intro b1)
      replace b1 : Hid (Below w.heap.size w w1) := b1
      clear K1
      go_wp2_with (go_at_call 64; refine (K2.out _).mono ?_)
      intro e w2 hq
      first | (obtain ⟨rfl, b2⟩ : _ ∧ _ := hq) | (subst hq; intro b2)
      have B2 : Hid (Below w.heap.size w w2) := b1.out.trans (b2.mono b1.out.size)
      clear b1 b2 K2
      go_wp2
      go_ret
      exact ⟨rfl, B2.out⟩
    · rw [pt_no h2] at K2
      clear h h1 h2
      go_enter Try.func33, Try.ntmps33
      go_wp2_with (go_at_call 64; refine K1.out.mono ?_)
      intro e w1 hq
      first | (obtain ⟨rfl, b1⟩ : _ ∧ _ := hq) | (subst hq; intro b1)
      replace b1 : Hid (Below w.heap.size w w1) := b1
      clear K1
      go_wp2_with (go_at_call 64; refine (K2.out _).mono ?_)
      intro e w2 hq
      first | (obtain ⟨rfl, b2⟩ : _ ∧ _ := hq) | (subst hq; intro b2)
      have B2 : Hid (Below w.heap.size w w2) := b1.out.trans (b2.mono b1.out.size)
      clear b1 b2 K2
      go_wp2
      go_ret
      exact ⟨rfl, B2.out⟩
  · rw [pt_no h1] at K1
    replace K1 : Hid (Calls Try.prog 64 #[.int .i32 A] w fun e w' => e = .returned (.bool false) ∧ Below w.heap.size w w') := K1
    clear h h1 K2
    go_enter Try.func33, Try.ntmps33
    go_wp2_with (go_at_call 64; refine K1.out.mono ?_)
    intro e w1 hq
    first | (obtain ⟨rfl, b1⟩ : _ ∧ _ := hq) | (subst hq; intro b1)
    replace b1 : Hid (Below w.heap.size w w1) := b1
    clear K1
    go_wp2
    go_ret
    exact ⟨rfl, b1.out⟩
set_option maxRecDepth 100000 in
set_option maxHeartbeats 8000000 in
theorem between_any (L : List Rw) (A E : Int) (v : Value) (w : World) (hr : Rd3 .i64 w v L) (hok : okF 0 L) (hl : L.length ≤ 65536) (hA : 0 ≤ A) (hE : E ≤ 1114111) : Calls Try.prog 34 #[v, .int .i64 A, .int .i64 E] w fun e w' => ∃ v', e = .returned v' ∧ Rd3 .i64 w' v' (clp A E (runsL L)) ∧ Below w.heap.size w w' := by
  have hlR : (runsL L).length ≤ 131073 := by have := runsL_len L; omega
  have hAd : decide (A < 0) = false := decide_eq_false (by omega)
  have hEd : decide (1114111 < E) = false := decide_eq_false (by omega)
  obtain ⟨i0, hi, hz0, hz1, hz2⟩ := info_parts info33
  have B0 : Below w.heap.size w (w.alloc (.cells #[] 57)) := (Below.refl _ _).alloc (Nat.le_refl _) _
  have KR : Hid (Calls Try.prog 17 #[v] (w.alloc (.cells #[] 57)) fun e w' => ∃ v', e = .returned v' ∧ w'.ownsRow (w.alloc (.cells #[] 57)).heap.size 57 3 v' (runsL L).length (cel3 .i64 (runsL L)) ∧ Below (w.alloc (.cells #[] 57)).heap.size (w.alloc (.cells #[] 57)) w') := runs_any L v _ (hr.below B0) hok (by omega)
  replace B0 : Hid (Below w.heap.size w (w.alloc (.cells #[] 57))) := B0
  have O0 : Hid ((w.alloc (.cells #[] 57)).ownsRow w.heap.size 57 3 (.slice (some ⟨w.heap.size, 0, none⟩) 0 0) 0 []) := own_none w _ 57 3 (Nat.le_refl _)
  clear hr hok hA hE
  go_enter Try.func34, Try.ntmps34
  go_wp2_with (go_at_call 17; refine KR.out.mono ?_)
  first | rintro e wc vs rfl oc bc | rintro e wc ⟨vs, rfl, oc, bc⟩
  have Bc : Hid (Below w.heap.size w wc) := B0.out.trans (bc.mono (by simp))
  have Oc : Hid (wc.ownsRow w.heap.size 57 3 (.slice (some ⟨w.heap.size, 0, none⟩) 0 0) 0 []) := owns_below O0.out bc
  have Rc : Hid (Rd3 .i64 wc vs (runsL L)) := Rd3.of_owns oc
  have hvs : Hid (∀ g, vs.ownBlock = some g → w.heap.size + 1 ≤ g ∧ g < wc.heap.size) := fun g hg => by
    obtain ⟨h1, cur, h2⟩ := own_in oc hg
    have := (Array.getElem?_eq_some_iff.1 h2).1
    simp at h1
    omega
  obtain ⟨av, cv, rfl, -, -⟩ := owns_slice oc
  clear oc bc KR B0 O0
  generalize hRe : runsL L = R at *
  replace hRe : Hid (runsL L = R) := hRe
  go_wp2_with fail
  go_loopw [7, 21] (fun x y wr => ∃ k : Nat, k ≤ R.length ∧ y = .int .i64 (k : Nat) ∧ Hid (wr.ownsRow w.heap.size 57 3 x (clp A E (R.take k)).length (cel3 .i64 (clp A E (R.take k)))) ∧ Hid (Below w.heap.size w wr) ∧ Hid (Rd3 .i64 wr (.slice av R.length cv) R) ∧ Hid (x.ownBlock = some w.heap.size ∨ ∃ g, x.ownBlock = some g ∧ wc.heap.size ≤ g) ∧ Hid (wc.heap.size ≤ wr.heap.size)) (fun _ y _ => (R.length - (intOf y).toNat : Nat))
  case atStart => exact ⟨0, Nat.zero_le _, rfl, Oc, Bc, Rc, .inl rfl, Nat.le_refl _⟩
  case round =>
    obtain ⟨k, hk, rfl, hO, hB, hR, hX, hZ⟩ := hrel
    have hbsz := hB.out.size
    clear Oc Bc Rc
    by_cases hkl : k < R.length
    · obtain ⟨a2, c2, e2, -, hc⟩ := hR.out
      obtain ⟨rfl, rfl⟩ : av = a2 ∧ cv = c2 := by simpa using e2
      obtain ⟨g, off, rfl, hd⟩ := hc (by omega)
      obtain ⟨e1, e2', e3⟩ := hd k hkl
      have kl : (k : Int) < (R.length : Int) := by omega
      have hsn := clp_take (A := A) (E := E) hkl
      have hll : (clp A E (R.take k)).length ≤ k := by have := clp_len A E (R.take k); simp at this; omega
      clear hd hc e2
      generalize R.getD k (0, 0, 0) = s at *
      obtain ⟨x, y, n⟩ := s
      simp only [clA, clE] at e1 e2' e3 hsn
      obtain ⟨q1, q2, q3⟩ := box3 wr (.int .i64 x) (.int .i64 y) (.int .i64 n) 57
      have B1 : Hid (Below w.heap.size w (wr.alloc (.cells #[.int .i64 x, .int .i64 y, .int .i64 n] 57))) := hB.out.alloc hbsz _
      have bA : Below wr.heap.size wr (wr.alloc (.cells #[.int .i64 x, .int .i64 y, .int .i64 n] 57)) := (Below.refl _ _).alloc (Nat.le_refl _) _
      have O1 : Hid ((wr.alloc (.cells #[.int .i64 x, .int .i64 y, .int .i64 n] 57)).ownsRow w.heap.size 57 3 u7 (clp A E (R.take k)).length (cel3 .i64 (clp A E (R.take k)))) := hO.out.alloc _
      have R1 : Hid (Rd3 .i64 (wr.alloc (.cells #[.int .i64 x, .int .i64 y, .int .i64 n] 57)) (.slice (some ⟨g, off, none⟩) R.length cv) R) := hR.out.below bA
      have Z1 : Hid (wc.heap.size ≤ (wr.alloc (.cells #[.int .i64 x, .int .i64 y, .int .i64 n] 57)).heap.size) := by rw [Hid]; have := hZ.out; simp; omega
      have HLL : Hid ((clp A E (R.take k)).length ≤ k) := hll
      have hBw := hB
      have hOw := hO
      have hRw := hR
      clear hO hB hR bA hll
      have fz0 := box_froz wr #[.int .i64 x, .int .i64 y, .int .i64 n] 57 0
      have fz1 := box_froz wr #[.int .i64 x, .int .i64 y, .int .i64 n] 57 1
      have fz2 := box_froz wr #[.int .i64 A, .int .i64 y, .int .i64 n] 57 1
      obtain ⟨s1, s2, s3⟩ := box3 wr (.int .i64 A) (.int .i64 y) (.int .i64 n) 57
      clear O1 B1 R1 Z1
      by_cases hca : x < A
      · by_cases hce : E < y
        · have hcA : decide (x < A) = true := decide_eq_true hca
          have hcE : decide (E < y) = true := decide_eq_true hce
          rw [if_pos hca, if_pos hce] at hsn
          obtain ⟨p1, p2, p3⟩ := box3 wr (.int .i64 A) (.int .i64 E) (.int .i64 n) 57
          have B1 : Hid (Below w.heap.size w (wr.alloc (.cells #[.int .i64 A, .int .i64 E, .int .i64 n] 57))) := hBw.out.alloc hbsz _
          have O1 : Hid ((wr.alloc (.cells #[.int .i64 A, .int .i64 E, .int .i64 n] 57)).ownsRow w.heap.size 57 3 u7 (clp A E (R.take k)).length (cel3 .i64 (clp A E (R.take k)))) := hOw.out.alloc _
          have R1 : Hid (Rd3 .i64 (wr.alloc (.cells #[.int .i64 A, .int .i64 E, .int .i64 n] 57)) (.slice (some ⟨g, off, none⟩) R.length cv) R) := hRw.out.below ((Below.refl _ _).alloc (Nat.le_refl _) _)
          have Z1 : Hid (wc.heap.size ≤ (wr.alloc (.cells #[.int .i64 A, .int .i64 E, .int .i64 n] 57)).heap.size) := by rw [Hid]; have := hZ.out; simp; omega
          clear hBw hOw hRw hca hce
          by_cases hab : A ≤ E
          · have hdab : decide (A ≤ E) = true := decide_eq_true hab
            have hsn2 : Hid (clp A E (R.take (k + 1)) = clp A E (R.take k) ++ [(A, E, n)]) := by rw [Hid, hsn, if_pos hab]
            have hcn : Hid _ := cells_new (wr.alloc (.cells #[.int .i64 A, .int .i64 E, .int .i64 n] 57)) #[.int .i64 A, .int .i64 E, .int .i64 n] 57
            clear hsn hab
            go_wp2_with (at_builtin; refine wpList_append_own_at _ rfl _ _ 30 rfl w.heap.size 57 i0 _ 3 24 Try.underlying30 hi hz0 hz1 hz2 rfl (by decide) _ _ _ rfl (O1.out.alloc _) ⟨_, 0, none⟩ 1 1 [.int .i64 A, .int .i64 E, .int .i64 n] rfl rfl ?k31 ?k32 ?k33 ?k34 ?k35 ?k36)
            case k32 => simp [Value.oneCell']
            case k33 => unfold maxLen; have := HLL.out; omega
            case k34 => have := HLL.out; omega
            case k35 => first | omega | (simp; omega)
            case k36 =>
              intro v' w' hown' hgrow _ hloc
              have O2 : Hid (w'.ownsRow w.heap.size 57 3 v' (clp A E (R.take (k + 1))).length (cel3 .i64 (clp A E (R.take (k + 1))))) := by rw [Hid, hsn2.out, cel3_snoc, List.length_append]; exact hown'
              have B2 : Hid (Below w.heap.size w w') := (B1.out.alloc (by have := B1.out.size; simp; omega) _).grown hgrow (by simp; omega) (fun j hj => (O1.out.lt j hj).1)
              have R2 : Hid (Rd3 .i64 w' (.slice (some ⟨g, off, none⟩) R.length cv) R) := Rd3.kept (R1.out.below ((Below.refl _ _).alloc (Nat.le_refl _) _)) hgrow (fun g' hg' e => by
                have h1 := hvs.out g' hg'
                rcases hX.out with h | ⟨g2, h, h'⟩
                · rw [h] at e; cases e; omega
                · rw [h] at e; cases e; omega)
              have X2 : Hid (v'.ownBlock = some w.heap.size ∨ ∃ g, v'.ownBlock = some g ∧ wc.heap.size ≤ g) := by
                rcases hloc with h | h
                · rw [Hid, h]; exact hX.out
                · exact .inr ⟨_, h, by have := Z1.out; simp at this ⊢; omega⟩
              have Z2 : Hid (wc.heap.size ≤ w'.heap.size) := by rw [Hid]; have := hgrow.size; have := Z1.out; simp at *; omega
              clear hown' hgrow hloc O1 B1 R1 Z1 hX hZ q1 q2 q3 p1 p2 p3 s1 s2 s3 fz0 fz1 fz2 hcn e1 e2' e3
              go_wp2
              refine ⟨⟨k + 1, by omega, by go_num, O2, B2, R2, X2, Z2⟩, by simp [intOf]; omega⟩
          · have hdab : decide (A ≤ E) = false := decide_eq_false hab
            have hsn2 : Hid (clp A E (R.take (k + 1)) = clp A E (R.take k)) := by rw [Hid, hsn, if_neg hab, List.append_nil]
            clear hsn hab
            go_wp2
            refine ⟨⟨k + 1, by omega, by go_num, by rw [hsn2.out]; exact O1.out, B1, R1, hX, Z1⟩, by simp [intOf]; omega⟩
        · have hcA : decide (x < A) = true := decide_eq_true hca
          have hcE : decide (E < y) = false := decide_eq_false hce
          rw [if_pos hca, if_neg hce] at hsn
          obtain ⟨p1, p2, p3⟩ := box3 wr (.int .i64 A) (.int .i64 y) (.int .i64 n) 57
          have B1 : Hid (Below w.heap.size w (wr.alloc (.cells #[.int .i64 A, .int .i64 y, .int .i64 n] 57))) := hBw.out.alloc hbsz _
          have O1 : Hid ((wr.alloc (.cells #[.int .i64 A, .int .i64 y, .int .i64 n] 57)).ownsRow w.heap.size 57 3 u7 (clp A E (R.take k)).length (cel3 .i64 (clp A E (R.take k)))) := hOw.out.alloc _
          have R1 : Hid (Rd3 .i64 (wr.alloc (.cells #[.int .i64 A, .int .i64 y, .int .i64 n] 57)) (.slice (some ⟨g, off, none⟩) R.length cv) R) := hRw.out.below ((Below.refl _ _).alloc (Nat.le_refl _) _)
          have Z1 : Hid (wc.heap.size ≤ (wr.alloc (.cells #[.int .i64 A, .int .i64 y, .int .i64 n] 57)).heap.size) := by rw [Hid]; have := hZ.out; simp; omega
          clear hBw hOw hRw hca hce
          by_cases hab : A ≤ y
          · have hdab : decide (A ≤ y) = true := decide_eq_true hab
            have hsn2 : Hid (clp A E (R.take (k + 1)) = clp A E (R.take k) ++ [(A, y, n)]) := by rw [Hid, hsn, if_pos hab]
            have hcn : Hid _ := cells_new (wr.alloc (.cells #[.int .i64 A, .int .i64 y, .int .i64 n] 57)) #[.int .i64 A, .int .i64 y, .int .i64 n] 57
            clear hsn hab
            go_wp2_with (at_builtin; refine wpList_append_own_at _ rfl _ _ 30 rfl w.heap.size 57 i0 _ 3 24 Try.underlying30 hi hz0 hz1 hz2 rfl (by decide) _ _ _ rfl (O1.out.alloc _) ⟨_, 0, none⟩ 1 1 [.int .i64 A, .int .i64 y, .int .i64 n] rfl rfl ?k21 ?k22 ?k23 ?k24 ?k25 ?k26)
            case k22 => simp [Value.oneCell']
            case k23 => unfold maxLen; have := HLL.out; omega
            case k24 => have := HLL.out; omega
            case k25 => first | omega | (simp; omega)
            case k26 =>
              intro v' w' hown' hgrow _ hloc
              have O2 : Hid (w'.ownsRow w.heap.size 57 3 v' (clp A E (R.take (k + 1))).length (cel3 .i64 (clp A E (R.take (k + 1))))) := by rw [Hid, hsn2.out, cel3_snoc, List.length_append]; exact hown'
              have B2 : Hid (Below w.heap.size w w') := (B1.out.alloc (by have := B1.out.size; simp; omega) _).grown hgrow (by simp; omega) (fun j hj => (O1.out.lt j hj).1)
              have R2 : Hid (Rd3 .i64 w' (.slice (some ⟨g, off, none⟩) R.length cv) R) := Rd3.kept (R1.out.below ((Below.refl _ _).alloc (Nat.le_refl _) _)) hgrow (fun g' hg' e => by
                have h1 := hvs.out g' hg'
                rcases hX.out with h | ⟨g2, h, h'⟩
                · rw [h] at e; cases e; omega
                · rw [h] at e; cases e; omega)
              have X2 : Hid (v'.ownBlock = some w.heap.size ∨ ∃ g, v'.ownBlock = some g ∧ wc.heap.size ≤ g) := by
                rcases hloc with h | h
                · rw [Hid, h]; exact hX.out
                · exact .inr ⟨_, h, by have := Z1.out; simp at this ⊢; omega⟩
              have Z2 : Hid (wc.heap.size ≤ w'.heap.size) := by rw [Hid]; have := hgrow.size; have := Z1.out; simp at *; omega
              clear hown' hgrow hloc O1 B1 R1 Z1 hX hZ q1 q2 q3 p1 p2 p3 s1 s2 s3 fz0 fz1 fz2 hcn e1 e2' e3
              go_wp2
              refine ⟨⟨k + 1, by omega, by go_num, O2, B2, R2, X2, Z2⟩, by simp [intOf]; omega⟩
          · have hdab : decide (A ≤ y) = false := decide_eq_false hab
            have hsn2 : Hid (clp A E (R.take (k + 1)) = clp A E (R.take k)) := by rw [Hid, hsn, if_neg hab, List.append_nil]
            clear hsn hab
            go_wp2
            refine ⟨⟨k + 1, by omega, by go_num, by rw [hsn2.out]; exact O1.out, B1, R1, hX, Z1⟩, by simp [intOf]; omega⟩
      · by_cases hce : E < y
        · have hcA : decide (x < A) = false := decide_eq_false hca
          have hcE : decide (E < y) = true := decide_eq_true hce
          rw [if_neg hca, if_pos hce] at hsn
          obtain ⟨p1, p2, p3⟩ := box3 wr (.int .i64 x) (.int .i64 E) (.int .i64 n) 57
          have B1 : Hid (Below w.heap.size w (wr.alloc (.cells #[.int .i64 x, .int .i64 E, .int .i64 n] 57))) := hBw.out.alloc hbsz _
          have O1 : Hid ((wr.alloc (.cells #[.int .i64 x, .int .i64 E, .int .i64 n] 57)).ownsRow w.heap.size 57 3 u7 (clp A E (R.take k)).length (cel3 .i64 (clp A E (R.take k)))) := hOw.out.alloc _
          have R1 : Hid (Rd3 .i64 (wr.alloc (.cells #[.int .i64 x, .int .i64 E, .int .i64 n] 57)) (.slice (some ⟨g, off, none⟩) R.length cv) R) := hRw.out.below ((Below.refl _ _).alloc (Nat.le_refl _) _)
          have Z1 : Hid (wc.heap.size ≤ (wr.alloc (.cells #[.int .i64 x, .int .i64 E, .int .i64 n] 57)).heap.size) := by rw [Hid]; have := hZ.out; simp; omega
          clear hBw hOw hRw hca hce
          by_cases hab : x ≤ E
          · have hdab : decide (x ≤ E) = true := decide_eq_true hab
            have hsn2 : Hid (clp A E (R.take (k + 1)) = clp A E (R.take k) ++ [(x, E, n)]) := by rw [Hid, hsn, if_pos hab]
            have hcn : Hid _ := cells_new (wr.alloc (.cells #[.int .i64 x, .int .i64 E, .int .i64 n] 57)) #[.int .i64 x, .int .i64 E, .int .i64 n] 57
            clear hsn hab
            go_wp2_with (at_builtin; refine wpList_append_own_at _ rfl _ _ 30 rfl w.heap.size 57 i0 _ 3 24 Try.underlying30 hi hz0 hz1 hz2 rfl (by decide) _ _ _ rfl (O1.out.alloc _) ⟨_, 0, none⟩ 1 1 [.int .i64 x, .int .i64 E, .int .i64 n] rfl rfl ?k11 ?k12 ?k13 ?k14 ?k15 ?k16)
            case k12 => simp [Value.oneCell']
            case k13 => unfold maxLen; have := HLL.out; omega
            case k14 => have := HLL.out; omega
            case k15 => first | omega | (simp; omega)
            case k16 =>
              intro v' w' hown' hgrow _ hloc
              have O2 : Hid (w'.ownsRow w.heap.size 57 3 v' (clp A E (R.take (k + 1))).length (cel3 .i64 (clp A E (R.take (k + 1))))) := by rw [Hid, hsn2.out, cel3_snoc, List.length_append]; exact hown'
              have B2 : Hid (Below w.heap.size w w') := (B1.out.alloc (by have := B1.out.size; simp; omega) _).grown hgrow (by simp; omega) (fun j hj => (O1.out.lt j hj).1)
              have R2 : Hid (Rd3 .i64 w' (.slice (some ⟨g, off, none⟩) R.length cv) R) := Rd3.kept (R1.out.below ((Below.refl _ _).alloc (Nat.le_refl _) _)) hgrow (fun g' hg' e => by
                have h1 := hvs.out g' hg'
                rcases hX.out with h | ⟨g2, h, h'⟩
                · rw [h] at e; cases e; omega
                · rw [h] at e; cases e; omega)
              have X2 : Hid (v'.ownBlock = some w.heap.size ∨ ∃ g, v'.ownBlock = some g ∧ wc.heap.size ≤ g) := by
                rcases hloc with h | h
                · rw [Hid, h]; exact hX.out
                · exact .inr ⟨_, h, by have := Z1.out; simp at this ⊢; omega⟩
              have Z2 : Hid (wc.heap.size ≤ w'.heap.size) := by rw [Hid]; have := hgrow.size; have := Z1.out; simp at *; omega
              clear hown' hgrow hloc O1 B1 R1 Z1 hX hZ q1 q2 q3 p1 p2 p3 s1 s2 s3 fz0 fz1 fz2 hcn e1 e2' e3
              go_wp2
              refine ⟨⟨k + 1, by omega, by go_num, O2, B2, R2, X2, Z2⟩, by simp [intOf]; omega⟩
          · have hdab : decide (x ≤ E) = false := decide_eq_false hab
            have hsn2 : Hid (clp A E (R.take (k + 1)) = clp A E (R.take k)) := by rw [Hid, hsn, if_neg hab, List.append_nil]
            clear hsn hab
            go_wp2
            refine ⟨⟨k + 1, by omega, by go_num, by rw [hsn2.out]; exact O1.out, B1, R1, hX, Z1⟩, by simp [intOf]; omega⟩
        · have hcA : decide (x < A) = false := decide_eq_false hca
          have hcE : decide (E < y) = false := decide_eq_false hce
          rw [if_neg hca, if_neg hce] at hsn
          obtain ⟨p1, p2, p3⟩ := box3 wr (.int .i64 x) (.int .i64 y) (.int .i64 n) 57
          have B1 : Hid (Below w.heap.size w (wr.alloc (.cells #[.int .i64 x, .int .i64 y, .int .i64 n] 57))) := hBw.out.alloc hbsz _
          have O1 : Hid ((wr.alloc (.cells #[.int .i64 x, .int .i64 y, .int .i64 n] 57)).ownsRow w.heap.size 57 3 u7 (clp A E (R.take k)).length (cel3 .i64 (clp A E (R.take k)))) := hOw.out.alloc _
          have R1 : Hid (Rd3 .i64 (wr.alloc (.cells #[.int .i64 x, .int .i64 y, .int .i64 n] 57)) (.slice (some ⟨g, off, none⟩) R.length cv) R) := hRw.out.below ((Below.refl _ _).alloc (Nat.le_refl _) _)
          have Z1 : Hid (wc.heap.size ≤ (wr.alloc (.cells #[.int .i64 x, .int .i64 y, .int .i64 n] 57)).heap.size) := by rw [Hid]; have := hZ.out; simp; omega
          clear hBw hOw hRw hca hce
          by_cases hab : x ≤ y
          · have hdab : decide (x ≤ y) = true := decide_eq_true hab
            have hsn2 : Hid (clp A E (R.take (k + 1)) = clp A E (R.take k) ++ [(x, y, n)]) := by rw [Hid, hsn, if_pos hab]
            have hcn : Hid _ := cells_new (wr.alloc (.cells #[.int .i64 x, .int .i64 y, .int .i64 n] 57)) #[.int .i64 x, .int .i64 y, .int .i64 n] 57
            clear hsn hab
            go_wp2_with (at_builtin; refine wpList_append_own_at _ rfl _ _ 30 rfl w.heap.size 57 i0 _ 3 24 Try.underlying30 hi hz0 hz1 hz2 rfl (by decide) _ _ _ rfl (O1.out.alloc _) ⟨_, 0, none⟩ 1 1 [.int .i64 x, .int .i64 y, .int .i64 n] rfl rfl ?k01 ?k02 ?k03 ?k04 ?k05 ?k06)
            case k02 => simp [Value.oneCell']
            case k03 => unfold maxLen; have := HLL.out; omega
            case k04 => have := HLL.out; omega
            case k05 => first | omega | (simp; omega)
            case k06 =>
              intro v' w' hown' hgrow _ hloc
              have O2 : Hid (w'.ownsRow w.heap.size 57 3 v' (clp A E (R.take (k + 1))).length (cel3 .i64 (clp A E (R.take (k + 1))))) := by rw [Hid, hsn2.out, cel3_snoc, List.length_append]; exact hown'
              have B2 : Hid (Below w.heap.size w w') := (B1.out.alloc (by have := B1.out.size; simp; omega) _).grown hgrow (by simp; omega) (fun j hj => (O1.out.lt j hj).1)
              have R2 : Hid (Rd3 .i64 w' (.slice (some ⟨g, off, none⟩) R.length cv) R) := Rd3.kept (R1.out.below ((Below.refl _ _).alloc (Nat.le_refl _) _)) hgrow (fun g' hg' e => by
                have h1 := hvs.out g' hg'
                rcases hX.out with h | ⟨g2, h, h'⟩
                · rw [h] at e; cases e; omega
                · rw [h] at e; cases e; omega)
              have X2 : Hid (v'.ownBlock = some w.heap.size ∨ ∃ g, v'.ownBlock = some g ∧ wc.heap.size ≤ g) := by
                rcases hloc with h | h
                · rw [Hid, h]; exact hX.out
                · exact .inr ⟨_, h, by have := Z1.out; simp at this ⊢; omega⟩
              have Z2 : Hid (wc.heap.size ≤ w'.heap.size) := by rw [Hid]; have := hgrow.size; have := Z1.out; simp at *; omega
              clear hown' hgrow hloc O1 B1 R1 Z1 hX hZ q1 q2 q3 p1 p2 p3 s1 s2 s3 fz0 fz1 fz2 hcn e1 e2' e3
              go_wp2
              refine ⟨⟨k + 1, by omega, by go_num, O2, B2, R2, X2, Z2⟩, by simp [intOf]; omega⟩
          · have hdab : decide (x ≤ y) = false := decide_eq_false hab
            have hsn2 : Hid (clp A E (R.take (k + 1)) = clp A E (R.take k)) := by rw [Hid, hsn, if_neg hab, List.append_nil]
            clear hsn hab
            go_wp2
            refine ⟨⟨k + 1, by omega, by go_num, by rw [hsn2.out]; exact O1.out, B1, R1, hX, Z1⟩, by simp [intOf]; omega⟩
    · have hkk : k = R.length := by omega
      subst hkk
      have O2 : Hid (Rd3 .i64 wr u7 (clp A E R)) := by
        have := Rd3.of_owns hO.out
        rwa [List.take_length] at this
      go_wp2
      go_ret
      exact ⟨_, rfl, by rw [hRe.out]; exact O2.out, hB.out⟩
end Go.Proofs.Ytookbgmolggohab
