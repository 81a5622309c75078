/-
  The contracts of Cross, Minus, Other and Within. Conditions: the numbers fit; the lists take no more bytes than there are.
-/
import Derived.Test.YtddoanmhikldiabCo
import Derived.Test.YtddoanmhikldiabRe
namespace Go.Proofs.Ytddoanmhikldiab
open Go.RowKit
/-- What is answered where sets are put together. -/
def PutsP (ok : Bool) (f : Int → Bool) (X : List Sn) (er : Int) : Prop :=
  (ok = false ∧ X = [] ∧ er = 70) ∨
  (ok = true ∧ ∃ S, isS 0 S = true ∧ (∀ p, hasB S p = f p) ∧ S.length ≤ 1000000 ∧ (S.length ≤ 65536 → X = S ∧ er = 0) ∧ (65536 < S.length → X = [] ∧ er = 71))
theorem common_len : ∀ (n : Nat) (a b : List Sn), a.length + b.length ≤ n → (commonL a b).length ≤ a.length + b.length := by
  intro n
  induction n with
  | zero =>
    intro a b hn
    cases a with
    | nil => rw [commonL]; simp
    | cons s a => simp at hn
  | succ n ih =>
    intro a b hn
    match a, b with
    | [], b => rw [commonL]; simp
    | s :: a, [] => rw [commonL]; simp
    | s :: a, t :: b =>
      rw [commonL, List.length_append]
      simp only [List.length_cons] at hn ⊢
      have h0 : (if max s.1 t.1 ≤ min s.2 t.2 then [(max s.1 t.1, min s.2 t.2)] else [] : List Sn).length ≤ 1 := by split <;> simp
      by_cases c : s.2 < t.2
      · rw [if_pos c]
        have := ih a (t :: b) (by simp only [List.length_cons]; omega)
        simp only [List.length_cons] at this
        omega
      · rw [if_neg c]
        have := ih (s :: a) b (by simp only [List.length_cons]; omega)
        simp only [List.length_cons] at this
        omega
theorem rest_len : ∀ (l : List Sn) (k : Int), (restL k l).length ≤ l.length + 1 := by
  intro l
  induction l with
  | nil => intro k; unfold restL; split <;> simp
  | cons s l ih =>
    intro k
    unfold restL
    have := ih (s.2 + 1)
    rw [List.length_append, List.length_cons]
    split <;> simp <;> omega
theorem isB_iff {L : List Sn} : isB L = true ↔ L.length ≤ 65536 ∧ isS 0 L = true := by simp [isB]
theorem minus_has {A B : List Sn} (hA : isS 0 A = true) (p : Int) : (hasB A p && (decide (0 ≤ p) && decide (p ≤ 1114111) && !hasB B p)) = (hasB A p && !hasB B p) := by
  cases hq : hasB A p
  · simp
  · have := has_range hA hq
    rw [decide_eq_true (show 0 ≤ p by omega), decide_eq_true (show p ≤ 1114111 by omega)]
    simp
theorem owns_lo {w : World} {b b' e size n : Nat} {v : Value} {xs : List Value} (h : w.ownsRow b e size v n xs) (hb : b' ≤ b) : w.ownsRow b' e size v n xs := by
  obtain ⟨h1, h2 | ⟨g, cap, cur, h3, h4, h5⟩⟩ := h
  · exact ⟨h1, .inl h2⟩
  · exact ⟨h1, .inr ⟨g, cap, cur, h3, Nat.le_trans hb h4, h5⟩⟩
set_option maxRecDepth 100000 in
set_option maxHeartbeats 1000000 in
theorem cross_any (A B : List Sn) (va vb : Value) (w : World) (ha : RdS w va A) (hb : RdS w vb B) (hfa : fitS A) (hfb : fitS B) (hla : A.length ≤ 17592186044416) (hlb : B.length ≤ 17592186044416) : Calls Try.prog 12 #[va, vb] w fun e w' => ∃ v' X er, e = .returned (.tuple #[v', .int .i64 er]) ∧ w'.ownsRow w.heap.size 41 2 v' X.length (celS X) ∧ PutsP (isB A && isB B) (fun p => hasB A p && hasB B p) X er ∧ Below w.heap.size w w' := by
  have HA : Hid (RdS w va A) := ha
  have HB : Hid (RdS w vb B) := hb
  have HFB : Hid (fitS B) := hfb
  have HFA : Hid (fitS A) := hfa
  clear ha hfa hb hfb
  go_enter Try.func12, Try.ntmps12
  go_wp2_with fail
  refine (is_any A va w HA.out HFA.out (by omega)).mono ?_
  rintro e w1 ⟨rfl, b1⟩
  have B1 : Hid (Below w.heap.size w w1) := b1
  clear b1
  cases hA : isB A
  · go_wp2
    go_ret2
    exact ⟨_, [], _, rfl, World.ownsRow_nil _ _ _ _, .inl ⟨by simp [hA], rfl, rfl⟩, B1.out⟩
  · go_wp2_with fail
    refine (is_any B vb w1 (HB.out.below B1.out) HFB.out (by omega)).mono ?_
    rintro e w2 ⟨rfl, b2⟩
    have B2 : Hid (Below w.heap.size w w2) := B1.out.trans (b2.mono B1.out.size)
    clear b2
    cases hB : isB B
    · go_wp2
      go_ret2
      exact ⟨_, [], _, rfl, World.ownsRow_nil _ _ _ _, .inl ⟨by simp [hB], rfl, rfl⟩, B2.out⟩
    · obtain ⟨la, sa⟩ := isB_iff.1 hA
      obtain ⟨lb, sb⟩ := isB_iff.1 hB
      have SA : Hid (isS 0 A = true) := sa
      have SB : Hid (isS 0 B = true) := sb
      clear sa sb
      go_wp2_with fail
      refine (common_any A B va vb w2 (HA.out.below B2.out) (HB.out.below B2.out) (by omega) (by omega)).mono ?_
      rintro e w3 ⟨v3, rfl, o3, b3⟩
      have SET := common_set _ A B 0 0 (Nat.le_refl _) SA.out SB.out
      have LEN := common_len _ A B (Nat.le_refl _)
      generalize commonL A B = S at *
      have HS : Hid (isS 0 S = true) := SET.1
      have HH : Hid (∀ p, hasB S p = (hasB A p && hasB B p)) := SET.2
      have B3 : Hid (Below w.heap.size w w3) := B2.out.trans (b3.mono B2.out.size)
      have O3 : Hid (w3.ownsRow w2.heap.size 41 2 v3 S.length (celS S)) := o3
      have hz := B2.out.size
      have LN : S.length ≤ 1000000 := by omega
      clear o3 b3 LEN SET
      go_wp2_with fail
      refine (limited_any S _ v3 w3 O3.out (by omega)).mono ?_
      rintro e w4 ⟨v4, X4, er, rfl, rfl, o4, h1, h2⟩
      have O4 : Hid (w4.ownsRow w2.heap.size 41 2 v4 X4.length (celS X4)) := o4
      have H1 : Hid (S.length ≤ 65536 → X4 = S ∧ er = 0) := h1
      have H2 : Hid (65536 < S.length → X4 = [] ∧ er = 71) := h2
      clear o4 h1 h2 O3
      go_wp2
      go_ret2
      exact ⟨v4, X4, _, rfl, owns_lo O4.out hz, .inr ⟨by simp [hA, hB], S, HS.out, HH.out, LN, H1.out, H2.out⟩, B3.out⟩
set_option maxRecDepth 100000 in
set_option maxHeartbeats 1000000 in
theorem minus_any (A B : List Sn) (va vb : Value) (w : World) (ha : RdS w va A) (hb : RdS w vb B) (hfa : fitS A) (hfb : fitS B) (hla : A.length ≤ 17592186044416) (hlb : B.length ≤ 17592186044416) : Calls Try.prog 13 #[va, vb] w fun e w' => ∃ v' X er, e = .returned (.tuple #[v', .int .i64 er]) ∧ w'.ownsRow w.heap.size 41 2 v' X.length (celS X) ∧ PutsP (isB A && isB B) (fun p => hasB A p && !hasB B p) X er ∧ Below w.heap.size w w' := by
  have HA : Hid (RdS w va A) := ha
  have HB : Hid (RdS w vb B) := hb
  have HFB : Hid (fitS B) := hfb
  have HFA : Hid (fitS A) := hfa
  clear ha hfa hb hfb
  go_enter Try.func13, Try.ntmps13
  go_wp2_with fail
  refine (is_any A va w HA.out HFA.out (by omega)).mono ?_
  rintro e w1 ⟨rfl, b1⟩
  have B1 : Hid (Below w.heap.size w w1) := b1
  clear b1
  cases hA : isB A
  · go_wp2
    go_ret2
    exact ⟨_, [], _, rfl, World.ownsRow_nil _ _ _ _, .inl ⟨by simp [hA], rfl, rfl⟩, B1.out⟩
  · go_wp2_with fail
    refine (is_any B vb w1 (HB.out.below B1.out) HFB.out (by omega)).mono ?_
    rintro e w2 ⟨rfl, b2⟩
    have B2 : Hid (Below w.heap.size w w2) := B1.out.trans (b2.mono B1.out.size)
    clear b2
    cases hB : isB B
    · go_wp2
      go_ret2
      exact ⟨_, [], _, rfl, World.ownsRow_nil _ _ _ _, .inl ⟨by simp [hB], rfl, rfl⟩, B2.out⟩
    · obtain ⟨la, sa⟩ := isB_iff.1 hA
      obtain ⟨lb, sb⟩ := isB_iff.1 hB
      have SA : Hid (isS 0 A = true) := sa
      have SB : Hid (isS 0 B = true) := sb
      clear sa sb
      go_wp2_with fail
      refine (rest_any B vb w2 (HB.out.below B2.out) SB.out (by omega)).mono ?_
      rintro e w25 ⟨v25, rfl, o25, b25⟩
      have O25 : Hid (RdS w25 v25 (restL 0 B)) := RdS.of_owns o25
      have B25 : Hid (Below w.heap.size w w25) := B2.out.trans (b25.mono B2.out.size)
      have RS := rest_set B 0 (by decide) SB.out
      have RL := rest_len B 0
      clear o25 b25
      generalize restL 0 B = R at *
      go_wp2_with fail
      refine (common_any A R va v25 w25 (HA.out.below B25.out) O25.out (by omega) (by omega)).mono ?_
      rintro e w3 ⟨v3, rfl, o3, b3⟩
      have SET := common_set _ A R 0 0 (Nat.le_refl _) SA.out RS.1
      have LEN := common_len _ A R (Nat.le_refl _)
      generalize commonL A R = S at *
      have HS : Hid (isS 0 S = true) := SET.1
      have HH : Hid (∀ p, hasB S p = (hasB A p && !hasB B p)) := fun p => by rw [SET.2 p, RS.2 p, minus_has SA.out]
      have B3 : Hid (Below w.heap.size w w3) := B25.out.trans (b3.mono B25.out.size)
      have O3 : Hid (w3.ownsRow w25.heap.size 41 2 v3 S.length (celS S)) := o3
      have hz := B25.out.size
      have LN : S.length ≤ 1000000 := by omega
      clear o3 b3 LEN SET RS RL
      go_wp2_with fail
      refine (limited_any S _ v3 w3 O3.out (by omega)).mono ?_
      rintro e w4 ⟨v4, X4, er, rfl, rfl, o4, h1, h2⟩
      have O4 : Hid (w4.ownsRow w25.heap.size 41 2 v4 X4.length (celS X4)) := o4
      have H1 : Hid (S.length ≤ 65536 → X4 = S ∧ er = 0) := h1
      have H2 : Hid (65536 < S.length → X4 = [] ∧ er = 71) := h2
      clear o4 h1 h2 O3
      go_wp2
      go_ret2
      exact ⟨v4, X4, _, rfl, owns_lo O4.out hz, .inr ⟨by simp [hA, hB], S, HS.out, HH.out, LN, H1.out, H2.out⟩, B3.out⟩
set_option maxRecDepth 100000 in
set_option maxHeartbeats 1000000 in
theorem other_any (A : List Sn) (va : Value) (w : World) (ha : RdS w va A) (hfa : fitS A) (hla : A.length ≤ 17592186044416) : Calls Try.prog 15 #[va] w fun e w' => ∃ v' X er, e = .returned (.tuple #[v', .int .i64 er]) ∧ w'.ownsRow w.heap.size 41 2 v' X.length (celS X) ∧ PutsP (isB A) (fun p => decide (0 ≤ p) && decide (p ≤ 1114111) && !hasB A p) X er ∧ Below w.heap.size w w' := by
  have HA : Hid (RdS w va A) := ha
  have HFA : Hid (fitS A) := hfa
  clear ha hfa
  go_enter Try.func15, Try.ntmps15
  go_wp2_with fail
  refine (is_any A va w HA.out HFA.out (by omega)).mono ?_
  rintro e w1 ⟨rfl, b1⟩
  have B1 : Hid (Below w.heap.size w w1) := b1
  clear b1
  cases hA : isB A
  · go_wp2
    go_ret2
    exact ⟨_, [], _, rfl, World.ownsRow_nil _ _ _ _, .inl ⟨by simp [hA], rfl, rfl⟩, B1.out⟩
  · obtain ⟨la, sa⟩ := isB_iff.1 hA
    have SA : Hid (isS 0 A = true) := sa
    have B2 : Hid (Below w.heap.size w w1) := B1.out
    clear sa
    go_wp2_with fail
    refine (rest_any A va w1 (HA.out.below B2.out) SA.out (by omega)).mono ?_
    rintro e w3 ⟨v3, rfl, o3, b3⟩
    have RS := rest_set A 0 (by decide) SA.out
    have LEN := rest_len A 0
    generalize restL 0 A = S at *
    have HS : Hid (isS 0 S = true) := RS.1
    have HH : Hid (∀ p, hasB S p = (decide (0 ≤ p) && decide (p ≤ 1114111) && !hasB A p)) := RS.2
    have B3 : Hid (Below w.heap.size w w3) := B2.out.trans (b3.mono B2.out.size)
    have O3 : Hid (w3.ownsRow w1.heap.size 41 2 v3 S.length (celS S)) := o3
    have hz := B2.out.size
    have LN : S.length ≤ 1000000 := by omega
    clear o3 b3 LEN RS
    go_wp2_with fail
    refine (limited_any S _ v3 w3 O3.out (by omega)).mono ?_
    rintro e w4 ⟨v4, X4, er, rfl, rfl, o4, h1, h2⟩
    have O4 : Hid (w4.ownsRow w1.heap.size 41 2 v4 X4.length (celS X4)) := o4
    have H1 : Hid (S.length ≤ 65536 → X4 = S ∧ er = 0) := h1
    have H2 : Hid (65536 < S.length → X4 = [] ∧ er = 71) := h2
    clear o4 h1 h2 O3
    go_wp2
    go_ret2
    exact ⟨v4, X4, _, rfl, owns_lo O4.out hz, .inr ⟨by simp [hA], S, HS.out, HH.out, LN, H1.out, H2.out⟩, B3.out⟩
end Go.Proofs.Ytddoanmhikldiab
