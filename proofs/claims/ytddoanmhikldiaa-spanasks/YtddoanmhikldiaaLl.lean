/-
  What the statement of the laws of sets asks, walked. Conditions: the numbers fit; the lists take no more bytes than there are.
-/
import Derived.Test.YtddoanmhikldiaaPl
import Derived.Test.YtddoanmhikldiaaUn
import Derived.Test.YtddoanmhikldiaaMk
import Derived.Test.YtddoanmhikldiaaAl
import Derived.Test.YtddoanmhikldiaaGv
namespace Go.Proofs.Ytddoanmhikldiaa
open Go.RowKit
noncomputable def body6 : Code := Try.f6.body.getD .skip
set_option maxRecDepth 100000 in
set_option maxHeartbeats 1000000 in
theorem union_gen2 (Ls : List (List Sn)) (f : Int → Bool) (M n g off c : Nat) (w : World) (hn : Ls.length = n) (hn3 : n ≤ 3) (hr : RdL w g off Ls) (hM : M ≤ 1000000)
    (kT : (∀ j, j < Ls.length → isB (Ls.getD j []) = true) → ∀ w1 : World, Below w.heap.size w w1 → Calls Try.prog 36 #[.slice (some ⟨g, off, none⟩) n c] w1 fun e w' => ∃ v', e = .returned v' ∧ SetO f M w1.heap.size v' w' ∧ Below w1.heap.size w1 w') : Calls Try.prog 14 #[.slice (some ⟨g, off, none⟩) n c] w fun e w' => ∃ v' X at0 er, e = .returned (.tuple #[v', .int .i64 at0, .int .i64 er]) ∧ w'.ownsRow w.heap.size 57 2 v' X.length (celS X) ∧ UnionP Ls f X at0 er ∧ (M ≤ 65536 → (∀ j, j < Ls.length → isB (Ls.getD j []) = true) → er = 0 ∧ isS 0 X = true ∧ (∀ p, hasB X p = f p) ∧ X.length ≤ 65536) ∧ Below w.heap.size w w' := by
  have HR : Hid (RdL w g off Ls) := hr
  have HN : Hid (Ls.length = n) := hn
  have KT : Hid (∀ w1 : World, (∀ j, j < Ls.length → isB (Ls.getD j []) = true) → Below w.heap.size w w1 → Calls Try.prog 36 #[.slice (some ⟨g, off, none⟩) n c] w1 fun e w' => ∃ v', e = .returned v' ∧ SetO f M w1.heap.size v' w' ∧ Below w1.heap.size w1 w') := fun w1 h hb => kT h w1 hb
  clear hr kT hn
  go_enter Try.func14, Try.ntmps14
  go_wp2_with fail
  go_loopw [5, 11] (fun _ y wr => ∃ k : Nat, k ≤ n ∧ y = .int .i64 (k : Nat) ∧ Hid (∀ j, j < k → isB (Ls.getD j []) = true) ∧ Hid (Below w.heap.size w wr)) (fun _ y _ => (n - (intOf y).toNat : Nat))
  case atStart => exact ⟨0, Nat.zero_le _, rfl, fun j hj => by omega, Below.refl _ _⟩
  case round =>
    obtain ⟨k, hk, rfl, hM2, hB⟩ := hrel
    by_cases hkl : k < n
    · obtain ⟨vk, h1, h2, h3, h4⟩ := HR.out.below hB.out k (by have := HN.out; omega)
      have kl : (k : Int) < (n : Int) := by omega
      have H2 : Hid (RdS wr vk (Ls.getD k [])) := h2
      have H3 : Hid (fitS (Ls.getD k [])) := h3
      have H4 : Hid ((Ls.getD k []).length ≤ 17592186044416) := h4
      clear h2 h3 h4
      go_wp2_with fail
      refine (is_any (Ls.getD k []) vk wr H2.out H3.out (by have := H4.out; omega)).mono ?_
      rintro e w1 ⟨rfl, b1⟩
      have B1 : Hid (Below w.heap.size w w1) := hB.out.trans (b1.mono hB.out.size)
      clear b1
      generalize hib : isB (Ls.getD k []) = b
      have HIB : Hid (isB (Ls.getD k []) = b) := hib
      clear hib
      cases b
      · go_wp2
        go_ret3
        exact ⟨_, [], _, _, rfl, World.ownsRow_nil _ _ _ _, .inl ⟨k, by have := HN.out; omega, HIB.out, hM2.out, rfl, rfl, rfl⟩, fun _ h => (by have := h k (by have := HN.out; omega); rw [HIB.out] at this; cases this), B1.out⟩
      · have hM3 : Hid (∀ j, j < k + 1 → isB (Ls.getD j []) = true) := fun j hj => by
          by_cases c : j = k
          · rw [c]; exact HIB.out
          · exact hM2.out j (by omega)
        go_wp2
        refine ⟨⟨k + 1, by omega, by go_num, hM3.out, B1.out⟩, by simp [intOf]; omega⟩
    · have hkk : k = n := by omega
      subst hkk
      have hall : Hid (∀ j, j < Ls.length → isB (Ls.getD j []) = true) := fun j hj => hM2.out j (by have := HN.out; omega)
      go_wp2_with fail
      refine (KT.out wr hall.out hB.out).mono ?_
      rintro e w1 ⟨v1, rfl, ⟨S, o1, s1, s2, s3⟩, b1⟩
      have O1 : Hid (w1.ownsRow wr.heap.size 57 2 v1 S.length (celS S)) := o1
      have S1 : Hid (isS 0 S = true) := s1
      have S2 : Hid (∀ p, hasB S p = f p) := s2
      have B1 : Hid (Below w.heap.size w w1) := hB.out.trans (b1.mono hB.out.size)
      have hbs := hB.out.size
      clear o1 s1 s2 b1 KT
      go_wp2_with fail
      refine (limited_any S _ v1 w1 O1.out (by omega)).mono ?_
      rintro e w4 ⟨v4, X4, er, rfl, rfl, o4, h1, h2⟩
      have O4 : Hid (w4.ownsRow w.heap.size 57 2 v4 X4.length (celS X4)) := owns_lo o4 hbs
      have H1 : Hid (S.length ≤ 65536 → X4 = S ∧ er = 0) := h1
      have H2 : Hid (65536 < S.length → X4 = [] ∧ er = 71) := h2
      clear o4 h1 h2 O1
      go_wp2
      go_ret3
      exact ⟨v4, X4, _, _, rfl, O4.out, .inr ⟨hall.out, rfl, S, S1.out, S2.out, by omega, H1.out, H2.out⟩, fun hm _ => (by obtain ⟨rfl, rfl⟩ := H1.out (by omega); exact ⟨rfl, S1.out, S2.out, by omega⟩), B1.out⟩
theorem union2_any (A B : List Sn) (va vb : Value) (g : Nat) (w : World) (h0 : w.cell? ⟨g, 0, none⟩ = some va) (h1 : w.cell? ⟨g, 1, none⟩ = some vb) (ra : RdS w va A) (rb : RdS w vb B) (fa : fitS A) (fb : fitS B) (sa : isB A = true) (sb : isB B = true) : Calls Try.prog 14 #[.slice (some ⟨g, 0, none⟩) 2 2] w fun e w' => ∃ v' X at0 er, e = .returned (.tuple #[v', .int .i64 at0, .int .i64 er]) ∧ w'.ownsRow w.heap.size 57 2 v' X.length (celS X) ∧ (A.length + B.length ≤ 65536 → er = 0 ∧ isS 0 X = true ∧ (∀ p, hasB X p = (hasB A p || hasB B p)) ∧ X.length ≤ 65536) ∧ Below w.heap.size w w' := by
  have la := (isB_iff.1 sa).1
  have lb := (isB_iff.1 sb).1
  have hall : ∀ j, j < [A, B].length → isB ([A, B].getD j []) = true := fun j hj => by
    match j, hj with
    | 0, _ => exact sa
    | 1, _ => exact sb
  refine (union_gen2 [A, B] _ (A.length + B.length) 2 g 0 2 w rfl (by omega) (fun j hj => ?_) (by omega) (fun _ => tog2 A B va vb g 0 2 w (Nat.le_refl _) h0 h1 ra rb sa sb)).mono ?_
  · match j, hj with
    | 0, _ => exact ⟨va, h0, ra, fa, by show A.length ≤ _; omega⟩
    | 1, _ => exact ⟨vb, h1, rb, fb, by show B.length ≤ _; omega⟩
  · rintro e w' ⟨v', X, at0, er, h1, h2, _, h4, h5⟩
    exact ⟨v', X, at0, er, h1, h2, fun h => h4 h hall, h5⟩
theorem set_fit {S : List Sn} {m : Int} (h : isS m S = true) : fitS S := fun s hs => by
  have := may_iff.1 (isS_mem h s hs).1; omega
theorem nil_fit : fitS [] := fun s hs => by cases hs
theorem puts_fit {ok : Bool} {f : Int → Bool} {X : List Sn} {er : Int} (h : PutsP ok f X er) : fitS X ∧ X.length ≤ 65536 := by
  rcases h with ⟨_, rfl, _⟩ | ⟨_, S, s1, _, _, s4, s5⟩
  · exact ⟨nil_fit, by simp⟩
  · by_cases c : S.length ≤ 65536
    · rw [(s4 c).1]; exact ⟨set_fit s1, c⟩
    · rw [(s5 (by omega)).1]; exact ⟨nil_fit, by simp⟩
theorem puts_is {f : Int → Bool} {X T : List Sn} {er : Int} (h : PutsP true f X er) (hT : isS 0 T = true) (hH : ∀ p, hasB T p = f p) (hl : T.length ≤ 65536) : X = T ∧ er = 0 := by
  rcases h with ⟨h, _⟩ | ⟨_, S, s1, s2, _, s4, _⟩
  · cases h
  · have e : S = T := uniq s1 hT (fun p => by rw [s2, hH])
    rw [e] at s4
    exact s4 hl
theorem make_is {A X : List Sn} {i er : Int} (h : MakeP A X i er) (hA : isB A = true) : X = A ∧ er = 0 := by
  obtain ⟨la, sa⟩ := isB_iff.1 hA
  rcases h with ⟨a, _⟩ | ⟨_, k, h1, h2, _⟩ | ⟨_, _, h2, h3, _, h4⟩
  · omega
  · rw [(isS_mem sa _ (get_mem A k h1)).1] at h2; cases h2
  · exact ⟨uniq h2 sa h3, h4⟩
theorem make_len {A X : List Sn} {i er : Int} (h : MakeP A X i er) (hA : isB A = true) : X = A := (make_is h hA).1
theorem cnt_two {A B U V : List Sn} (ha : isS 0 A = true) (hb : isS 0 B = true) (hu : isS 0 U = true) (hv : isS 0 V = true) (h1 : ∀ p, hasB U p = (hasB A p || hasB B p)) (h2 : ∀ p, hasB V p = (hasB A p && hasB B p)) : cntL A + cntL B = cntL U + cntL V := by
  rw [cnt_is ha, cnt_is hb, cnt_is hu, cnt_is hv]
  have e := allP_or_and (hasB A) (hasB B) 1114112
  rw [show hasB U = fun p => hasB A p || hasB B p from funext h1, show hasB V = fun p => hasB A p && hasB B p from funext h2]
  omega
theorem allP_true (n : Nat) : allP (fun _ => true) n = n := by
  induction n with
  | zero => rfl
  | succ n ih => rw [allP_succ, ih]; rfl
theorem cnt_all {A X : List Sn} (ha : isS 0 A = true) (hx : isS 0 X = true) (h : ∀ p, hasB X p = (decide (0 ≤ p) && decide (p ≤ 1114111) && !hasB A p)) : cntL A + cntL X = 1114112 := by
  rw [cnt_is ha, cnt_is hx]
  have e := allP_or_and (hasB A) (hasB X) 1114112
  have e1 : allP (fun p => hasB A p || hasB X p) 1114112 = 1114112 := by
    rw [allP_congr (g := fun _ => true) (fun p h1 h2 => by
      show (hasB A p || hasB X p) = true
      rw [h p, decide_eq_true h1, decide_eq_true (show p ≤ 1114111 by omega)]
      cases hasB A p <;> rfl), allP_true]
  have e2 : allP (fun p => hasB A p && hasB X p) 1114112 = 0 := by
    rw [allP_congr (g := fun _ => false) (fun p _ _ => by
      show (hasB A p && hasB X p) = false
      rw [h p]
      cases hasB A p <;> simp), allP_false]
  omega
set_option maxRecDepth 100000 in
set_option maxHeartbeats 2000000 in
theorem laws_E {Q : Ending → World → Prop} (A : List Sn) (va : Value) (i : Int) (a : Act) (w0 w : World) (hb0 : Below w0.heap.size w0 w) (sA : isB A = true) (ra : RdS w va A) (fa : fitS A) (hi : -9223372036854775808 ≤ i ∧ i ≤ 9223372036854775807)
    (hQ : ∀ w', Below w0.heap.size w0 w' → Q (.returned (.bool true)) w') (ha : At 195 [(0, va), (2, .int .i64 i)] a) : Code.wp Try.prog (sq 13 body6) (bodyPost Try.prog Try.f6 Q) a w := by
  obtain ⟨la, sa⟩ := isB_iff.1 sA
  have RA : Hid (RdS w va A) := ra
  have FA : Hid (fitS A) := fa
  have SA : Hid (isS 0 A = true) := sa
  have HQ : Hid (∀ w', Below w0.heap.size w0 w' → Q (.returned (.bool true)) w') := hQ
  have B0 : Hid (Below w0.heap.size w0 w) := hb0
  clear ra fa sa hQ hb0
  obtain ⟨f, rfl, h0, h2, -⟩ := ha.lit
  change Code.wp _ _ _ ⟨#[f 0, f 1, f 2, f 3, f 4, f 5, f 6, f 7, f 8, f 9, f 10, f 11, f 12, f 13, f 14, f 15, f 16, f 17, f 18, f 19, f 20, f 21, f 22, f 23, f 24, f 25, f 26, f 27, f 28, f 29, f 30, f 31, f 32, f 33, f 34, f 35, f 36, f 37, f 38, f 39, f 40, f 41, f 42, f 43, f 44, f 45, f 46, f 47, f 48, f 49, f 50, f 51, f 52, f 53, f 54, f 55, f 56, f 57, f 58, f 59, f 60, f 61, f 62, f 63, f 64, f 65, f 66, f 67, f 68, f 69, f 70, f 71, f 72, f 73, f 74, f 75, f 76, f 77, f 78, f 79, f 80, f 81, f 82, f 83, f 84, f 85, f 86, f 87, f 88, f 89, f 90, f 91, f 92, f 93, f 94, f 95, f 96, f 97, f 98, f 99, f 100, f 101, f 102, f 103, f 104, f 105, f 106, f 107, f 108, f 109, f 110, f 111, f 112, f 113, f 114, f 115, f 116, f 117, f 118, f 119, f 120, f 121, f 122, f 123, f 124, f 125, f 126, f 127, f 128, f 129, f 130, f 131, f 132, f 133, f 134, f 135, f 136, f 137, f 138, f 139, f 140, f 141, f 142, f 143, f 144, f 145, f 146, f 147, f 148, f 149, f 150, f 151, f 152, f 153, f 154, f 155, f 156, f 157, f 158, f 159, f 160, f 161, f 162, f 163, f 164, f 165, f 166, f 167, f 168, f 169, f 170, f 171, f 172, f 173, f 174, f 175, f 176, f 177, f 178, f 179, f 180, f 181, f 182, f 183, f 184, f 185, f 186, f 187, f 188, f 189, f 190, f 191, f 192, f 193, f 194], []⟩ _
  simp only at h0 h2
  simp only [h0, h2]
  clear h0 h2
  conv => arg 2; whnf
  by_cases c0 : i < 0
  · go_wp2_with fail
    refine (At_no A i va w RA.out FA.out (by omega) (.inr ⟨sA, c0⟩)).mono ?_
    rintro e w1 ⟨rfl, b1⟩
    have B1 : Hid (Below w0.heap.size w0 w1) := B0.out.trans (b1.mono B0.out.size)
    clear b1
    go_wp2
    exact HQ.out _ B1.out
  · have c0' : decide (i < 0) = false := decide_eq_false c0
    have SP := at_spec SA.out i (by omega)
    have NX : Hid (hasB A (atL A i) = true → nxL A (atL A i) = atL A i) := fun hh => by
      have hH := has_rch SA.out (atL A i)
      rw [hh] at hH
      have hH2 := hH.symm
      rw [Bool.and_eq_true, decide_eq_true_eq, decide_eq_true_eq] at hH2
      unfold nxL
      rw [if_pos hH2.1]
      omega
    have HRG : Hid (hasB A (atL A i) = true → 0 ≤ atL A i) := fun hh => (has_range SA.out hh).1
    have KN : Hid (∀ (p : Int) (w1 : World), RdS w1 va A → Calls Try.prog 25 #[va, .int .i32 p] w1 fun e w' => e = .returned (.int .i32 (nxL A p)) ∧ Below w1.heap.size w1 w') := fun p w1 h => Next_any A p va w1 h FA.out sA
    have KP : Hid (∀ (p : Int) (w1 : World), hasB A p = true → RdS w1 va A → Calls Try.prog 24 #[va, .int .i32 p] w1 fun e w' => e = .returned (.int .i64 (plL A p)) ∧ Below w1.heap.size w1 w') := fun p w1 hh h => Place_any A p va w1 h FA.out sA hh
    have HS : Hid _ := SP
    clear SP
    go_wp2_with fail
    refine (At_any A i va w RA.out FA.out sA (by omega) hi.2).mono ?_
    rintro e w1 ⟨rfl, b1⟩
    have B1 : Hid (Below w0.heap.size w0 w1) := B0.out.trans (b1.mono B0.out.size)
    have RA1 : Hid (RdS w1 va A) := RA.out.below b1
    clear b1
    generalize atL A i = p at *
    rcases HS.out with ⟨h1, rfl⟩ | ⟨h1, h2, h3⟩
    · go_wp2_with fail
      refine (Count_any A va w1 RA1.out FA.out sA).mono ?_
      rintro e w2 ⟨rfl, b2⟩
      have B2 : Hid (Below w0.heap.size w0 w2) := B1.out.trans (b2.mono B1.out.size)
      clear b2
      generalize cntL A = ck at *
      go_wp2
      exact HQ.out _ B2.out
    · have hp0 := HRG.out h2
      have hp1 : (p == -1) = false := by simp; omega
      have H2 : Hid (hasB A p = true) := h2
      have H3 : Hid (plL A p = i) := h3
      have H4 : Hid (nxL A p = p) := NX.out h2
      clear h2 h3 NX HRG HS
      go_wp2_with fail
      refine (Has_any A p va w1 RA1.out FA.out sA).mono ?_
      rintro e w2 ⟨rfl, b2⟩
      rw [H2.out]
      have B2 : Hid (Below w0.heap.size w0 w2) := B1.out.trans (b2.mono B1.out.size)
      have RA2 : Hid (RdS w2 va A) := RA1.out.below b2
      clear b2
      go_wp2_with fail
      refine (KP.out p w2 H2.out RA2.out).mono ?_
      rintro e w3 ⟨rfl, b3⟩
      rw [H3.out]
      have B3 : Hid (Below w0.heap.size w0 w3) := B2.out.trans (b3.mono B2.out.size)
      have RA3 : Hid (RdS w3 va A) := RA2.out.below b3
      clear b3
      go_wp2_with fail
      refine (KN.out p w3 RA3.out).mono ?_
      rintro e w4 ⟨rfl, b4⟩
      rw [H4.out]
      have B4 : Hid (Below w0.heap.size w0 w4) := B3.out.trans (b4.mono B3.out.size)
      clear b4
      go_wp2
      exact HQ.out _ B4.out
set_option maxRecDepth 100000 in
set_option maxHeartbeats 2000000 in
theorem laws_D {Q : Exit → Act → World → Prop} (A B X T U V : List Sn) (va vb vx vy vz vw vu vv vo : Value) (i : Int) (a : Act) (w : World) (sA : isB A = true) (sB : isB B = true) (sX : isB X = true) (sU : isB U = true) (sV : isB V = true) (lT : T.length ≤ 1000000)
    (ra : RdS w va A) (rb : RdS w vb B) (rx : RdS w vx X) (ry : RdS w vy A) (rz : RdS w vz T) (rw : RdS w vw T) (ru : RdS w vu U) (rv : RdS w vv V) (ro : RdS w vo A)
    (hX : ∀ p, hasB X p = (decide (0 ≤ p) && decide (p ≤ 1114111) && !hasB A p)) (hU : ∀ p, hasB U p = (hasB A p || hasB B p)) (hV : ∀ p, hasB V p = (hasB A p && hasB B p))
    (hK : Hid (∀ a w', Below w.heap.size w w' → At 195 [(0, va), (2, .int .i64 i)] a → Code.wp Try.prog (sq 13 body6) Q a w')) (ha : At 195 [(0, va), (1, vb), (2, .int .i64 i), (7, vx), (9, vy), (11, vz), (15, vw), (17, vu), (20, vv), (22, vo)] a) : Code.wp Try.prog (sq 12 body6) Q a w := by
  have la := (isB_iff.1 sA).1
  have FA : Hid (fitS A) := set_fit (isB_iff.1 sA).2
  have FB : Hid (fitS B) := set_fit (isB_iff.1 sB).2
  have FX : Hid (fitS X) := set_fit (isB_iff.1 sX).2
  have FU : Hid (fitS U) := set_fit (isB_iff.1 sU).2
  have FV : Hid (fitS V) := set_fit (isB_iff.1 sV).2
  have E1 := cnt_two (isB_iff.1 sA).2 (isB_iff.1 sB).2 (isB_iff.1 sU).2 (isB_iff.1 sV).2 hU hV
  have E2 := cnt_all (isB_iff.1 sA).2 (isB_iff.1 sX).2 hX
  have c1 := cnt_bound (isB_iff.1 sA).2
  have c2 := cnt_bound (isB_iff.1 sB).2
  have c3 := cnt_bound (isB_iff.1 sU).2
  have c4 := cnt_bound (isB_iff.1 sV).2
  have c5 := cnt_bound (isB_iff.1 sX).2
  have Rva : Hid (RdS w va A) := ra
  have Rvb : Hid (RdS w vb B) := rb
  have Rvx : Hid (RdS w vx X) := rx
  have Rvy : Hid (RdS w vy A) := ry
  have Rvz : Hid (RdS w vz T) := rz
  have Rvw : Hid (RdS w vw T) := rw
  have Rvu : Hid (RdS w vu U) := ru
  have Rvv : Hid (RdS w vv V) := rv
  have Rvo : Hid (RdS w vo A) := ro
  have B0 : Hid (Below w.heap.size w w) := Below.refl _ _
  clear ra rb rx ry rz rw ru rv ro hX hU hV
  obtain ⟨f, rfl, h0, h1, h2, h7, h9, h11, h15, h17, h20, h22, -⟩ := ha.lit
  change Code.wp _ _ _ ⟨#[f 0, f 1, f 2, f 3, f 4, f 5, f 6, f 7, f 8, f 9, f 10, f 11, f 12, f 13, f 14, f 15, f 16, f 17, f 18, f 19, f 20, f 21, f 22, f 23, f 24, f 25, f 26, f 27, f 28, f 29, f 30, f 31, f 32, f 33, f 34, f 35, f 36, f 37, f 38, f 39, f 40, f 41, f 42, f 43, f 44, f 45, f 46, f 47, f 48, f 49, f 50, f 51, f 52, f 53, f 54, f 55, f 56, f 57, f 58, f 59, f 60, f 61, f 62, f 63, f 64, f 65, f 66, f 67, f 68, f 69, f 70, f 71, f 72, f 73, f 74, f 75, f 76, f 77, f 78, f 79, f 80, f 81, f 82, f 83, f 84, f 85, f 86, f 87, f 88, f 89, f 90, f 91, f 92, f 93, f 94, f 95, f 96, f 97, f 98, f 99, f 100, f 101, f 102, f 103, f 104, f 105, f 106, f 107, f 108, f 109, f 110, f 111, f 112, f 113, f 114, f 115, f 116, f 117, f 118, f 119, f 120, f 121, f 122, f 123, f 124, f 125, f 126, f 127, f 128, f 129, f 130, f 131, f 132, f 133, f 134, f 135, f 136, f 137, f 138, f 139, f 140, f 141, f 142, f 143, f 144, f 145, f 146, f 147, f 148, f 149, f 150, f 151, f 152, f 153, f 154, f 155, f 156, f 157, f 158, f 159, f 160, f 161, f 162, f 163, f 164, f 165, f 166, f 167, f 168, f 169, f 170, f 171, f 172, f 173, f 174, f 175, f 176, f 177, f 178, f 179, f 180, f 181, f 182, f 183, f 184, f 185, f 186, f 187, f 188, f 189, f 190, f 191, f 192, f 193, f 194], []⟩ _
  simp only at h0 h1 h2 h7 h9 h11 h15 h17 h20 h22
  simp only [h0, h1, h2, h7, h9, h11, h15, h17, h20, h22]
  clear h0 h1 h2 h7 h9 h11 h15 h17 h20 h22
  change Code.wp _ (Code.seq (hd (sq 12 body6)) (sq 13 body6)) _ _ _
  generalize sq 13 body6 = REST at hK ⊢
  conv => arg 2; arg 1; whnf
  go_wp2_with fail
  refine (given_any A va w (Rva.out.below B0.out) (by omega)).mono ?_
  rintro e w1 ⟨g1, rfl, o1, b1⟩
  have G1 : Hid (RdS w1 g1 A) := RdS.of_owns o1
  have B1 : Hid (Below w.heap.size w w1) := B0.out.trans (b1.mono B0.out.size)
  clear o1 b1
  go_wp2_with fail
  refine (alike_any A A vy g1 w1 (Rvy.out.below B1.out) G1.out (by omega) (by omega)).mono ?_
  rintro e w2 ⟨rfl, b2⟩
  rw [decide_eq_true rfl]
  have B2 : Hid (Below w.heap.size w w2) := B1.out.trans (b2.mono B1.out.size)
  clear b2 G1 B1
  go_wp2_with fail
  refine (given_any T vw w2 (Rvw.out.below B2.out) (by omega)).mono ?_
  rintro e w3 ⟨g3, rfl, o3, b3⟩
  have G3 : Hid (RdS w3 g3 T) := RdS.of_owns o3
  have B3 : Hid (Below w.heap.size w w3) := B2.out.trans (b3.mono B2.out.size)
  clear o3 b3
  go_wp2_with fail
  refine (alike_any T T vz g3 w3 (Rvz.out.below B3.out) G3.out (by omega) (by omega)).mono ?_
  rintro e w4 ⟨rfl, b4⟩
  rw [decide_eq_true rfl]
  have B4 : Hid (Below w.heap.size w w4) := B3.out.trans (b4.mono B3.out.size)
  clear b4 G3 B3
  go_wp2_with fail
  refine (given_any A va w4 (Rva.out.below B4.out) (by omega)).mono ?_
  rintro e w5 ⟨g5, rfl, o5, b5⟩
  have G5 : Hid (RdS w5 g5 A) := RdS.of_owns o5
  have B5 : Hid (Below w.heap.size w w5) := B4.out.trans (b5.mono B4.out.size)
  clear o5 b5
  go_wp2_with fail
  refine (alike_any A A vo g5 w5 (Rvo.out.below B5.out) G5.out (by omega) (by omega)).mono ?_
  rintro e w6 ⟨rfl, b6⟩
  rw [decide_eq_true rfl]
  have B6 : Hid (Below w.heap.size w w6) := B5.out.trans (b6.mono B5.out.size)
  clear b6 G5 B5
  go_wp2_with fail
  refine (Count_any A va w6 (Rva.out.below B6.out) FA.out sA).mono ?_
  rintro e w7 ⟨rfl, b7⟩
  have B7 : Hid (Below w.heap.size w w7) := B6.out.trans (b7.mono B6.out.size)
  clear b7 B6
  go_wp2_with fail
  refine (Count_any B vb w7 (Rvb.out.below B7.out) FB.out sB).mono ?_
  rintro e w8 ⟨rfl, b8⟩
  have B8 : Hid (Below w.heap.size w w8) := B7.out.trans (b8.mono B7.out.size)
  clear b8 B7
  go_wp2_with fail
  refine (Count_any U vu w8 (Rvu.out.below B8.out) FU.out sU).mono ?_
  rintro e w9 ⟨rfl, b9⟩
  have B9 : Hid (Below w.heap.size w w9) := B8.out.trans (b9.mono B8.out.size)
  clear b9 B8
  go_wp2_with fail
  refine (Count_any V vv w9 (Rvv.out.below B9.out) FV.out sV).mono ?_
  rintro e w10 ⟨rfl, b10⟩
  have B10 : Hid (Below w.heap.size w w10) := B9.out.trans (b10.mono B9.out.size)
  clear b10 B9
  have E3 : Hid (cntL A + cntL X = 1114112) := E2
  have KA : Hid (∀ w1 : World, RdS w1 va A → Calls Try.prog 22 #[va] w1 fun e w' => e = .returned (.int .i64 (cntL A)) ∧ Below w1.heap.size w1 w') := fun w1 h => Count_any A va w1 h FA.out sA
  have KX : Hid (∀ w1 : World, RdS w1 vx X → Calls Try.prog 22 #[vx] w1 fun e w' => e = .returned (.int .i64 (cntL X)) ∧ Below w1.heap.size w1 w') := fun w1 h => Count_any X vx w1 h FX.out sX
  generalize cntL A = na at *
  generalize cntL B = nb at *
  generalize cntL U = nu at *
  generalize cntL V = nv at *
  generalize cntL X = nx at *
  have E4 : ((na + nb) != (nu + nv)) = false := by simp; omega
  have E5 : ((na + nx) != 1114112) = false := by simp; omega
  clear E1 E2
  go_wp2_with fail
  refine (KA.out w10 (Rva.out.below B10.out)).mono ?_
  rintro e w11 ⟨rfl, b11⟩
  have B11 : Hid (Below w.heap.size w w11) := B10.out.trans (b11.mono B10.out.size)
  clear b11 B10
  go_wp2_with fail
  refine (KX.out w11 (Rvx.out.below B11.out)).mono ?_
  rintro e w12 ⟨rfl, b12⟩
  have B12 : Hid (Below w.heap.size w w12) := B11.out.trans (b12.mono B11.out.size)
  clear b12 B11
  go_wp2
  exact hK.out _ _ B12.out ⟨rfl, rfl, rfl, rfl, trivial⟩
theorem other_back {A X : List Sn} (hA : isS 0 A = true) (hX : ∀ p, hasB X p = (decide (0 ≤ p) && decide (p ≤ 1114111) && !hasB A p)) (p : Int) : hasB A p = (decide (0 ≤ p) && decide (p ≤ 1114111) && !hasB X p) := by
  rw [hX p]
  cases hq : hasB A p
  · cases decide (0 ≤ p) <;> cases decide (p ≤ 1114111) <;> rfl
  · have := has_range hA hq
    rw [decide_eq_true (show 0 ≤ p by omega), decide_eq_true (show p ≤ 1114111 by omega)]; rfl
theorem owns_rd2 {w w' : World} {b e : Nat} {v : Value} {L : List Sn} (h : w.ownsRow b e 2 v L.length (celS L)) (hb : Below w.heap.size w w') : RdS w' v L := (RdS.of_owns h).below hb
set_option maxRecDepth 100000 in
set_option maxHeartbeats 2000000 in
theorem law_laws (A B : List Sn) (va vb : Value) (i : Int) (w : World) (ra : RdS w va A) (rb : RdS w vb B) (fa : fitS A) (fb : fitS B) (la : A.length ≤ 17592186044416) (lb : B.length ≤ 17592186044416) (hi : -9223372036854775808 ≤ i ∧ i ≤ 9223372036854775807) : Calls Try.prog 6 #[va, vb, .int .i64 i] w fun e w' => e = .returned (.bool true) ∧ Below w.heap.size w w' := by
  have RA : Hid (RdS w va A) := ra
  have RB : Hid (RdS w vb B) := rb
  have FA : Hid (fitS A) := fa
  have FB : Hid (fitS B) := fb
  obtain ⟨pa, ca, rfl, _, _⟩ := ra
  obtain ⟨pb, cb, rfl, _, _⟩ := rb
  clear fa fb
  have HE : Hid (isB A = true → ∀ (a : Act) (w1 : World), Below w.heap.size w w1 → At 195 [(0, (.slice pa A.length ca)), (2, .int .i64 i)] a → Code.wp Try.prog (sq 13 body6) (bodyPost Try.prog Try.f6 fun e w' => e = .returned (.bool true) ∧ Below w.heap.size w w') a w1) := fun sA a w1 hb h => laws_E A _ i a w w1 hb sA (RA.out.below hb) FA.out hi (fun w' hb' => ⟨rfl, hb'⟩) h
  have HZ : Hid (∀ (X T U V : List Sn) (vx vy vz vw vu vv vo : Value) (a : Act) (w1 : World), Below w.heap.size w w1 → isB A = true → isB B = true → isB X = true → isB U = true → isB V = true → T.length ≤ 1000000 → RdS w1 vx X → RdS w1 vy A → RdS w1 vz T → RdS w1 vw T → RdS w1 vu U → RdS w1 vv V → RdS w1 vo A → (∀ p, hasB X p = (decide (0 ≤ p) && decide (p ≤ 1114111) && !hasB A p)) → (∀ p, hasB U p = (hasB A p || hasB B p)) → (∀ p, hasB V p = (hasB A p && hasB B p)) → At 195 [(0, (.slice pa A.length ca)), (1, (.slice pb B.length cb)), (2, .int .i64 i), (7, vx), (9, vy), (11, vz), (15, vw), (17, vu), (20, vv), (22, vo)] a → Code.wp Try.prog (sq 12 body6) (bodyPost Try.prog Try.f6 fun e w' => e = .returned (.bool true) ∧ Below w.heap.size w w') a w1) := fun X T U V vx vy vz vw vu vv vo a w1 hb sA sB sX sU sV lT r1 r2 r3 r4 r5 r6 r7 h1 h2 h3 h => laws_D A B X T U V _ _ vx vy vz vw vu vv vo i a w1 sA sB sX sU sV lT (RA.out.below hb) (RB.out.below hb) r1 r2 r3 r4 r5 r6 r7 h1 h2 h3 (fun a w' hb' h' => HE.out sA a w' (hb.trans (hb'.mono hb.size)) h') h
  go_enter Try.func6, Try.ntmps6
  change Code.wp _ (Code.seq (hd (sq 0 body6)) (Code.seq (hd (sq 1 body6)) (Code.seq (hd (sq 2 body6)) (Code.seq (hd (sq 3 body6)) (Code.seq (hd (sq 4 body6)) (Code.seq (hd (sq 5 body6)) (Code.seq (hd (sq 6 body6)) (Code.seq (hd (sq 7 body6)) (Code.seq (hd (sq 8 body6)) (Code.seq (hd (sq 9 body6)) (Code.seq (hd (sq 10 body6)) (Code.seq (hd (sq 11 body6)) (sq 12 body6))))))))))))) _ _ _
  generalize sq 12 body6 = REST at HZ ⊢
  conv => arg 2; arg 1; whnf
  conv => arg 2; arg 2; arg 1; whnf
  conv => arg 2; arg 2; arg 2; arg 1; whnf
  conv => arg 2; arg 2; arg 2; arg 2; arg 1; whnf
  conv => arg 2; arg 2; arg 2; arg 2; arg 2; arg 1; whnf
  conv => arg 2; arg 2; arg 2; arg 2; arg 2; arg 2; arg 1; whnf
  conv => arg 2; arg 2; arg 2; arg 2; arg 2; arg 2; arg 2; arg 1; whnf
  conv => arg 2; arg 2; arg 2; arg 2; arg 2; arg 2; arg 2; arg 2; arg 1; whnf
  conv => arg 2; arg 2; arg 2; arg 2; arg 2; arg 2; arg 2; arg 2; arg 2; arg 1; whnf
  conv => arg 2; arg 2; arg 2; arg 2; arg 2; arg 2; arg 2; arg 2; arg 2; arg 2; arg 1; whnf
  conv => arg 2; arg 2; arg 2; arg 2; arg 2; arg 2; arg 2; arg 2; arg 2; arg 2; arg 2; arg 1; whnf
  conv => arg 2; arg 2; arg 2; arg 2; arg 2; arg 2; arg 2; arg 2; arg 2; arg 2; arg 2; arg 2; arg 1; whnf
  clear HE
  go_wp2_with fail
  refine (given_any A (.slice pa A.length ca) w RA.out la).mono ?_
  rintro e w1 ⟨g1, rfl, o1, b1⟩
  have G1 : Hid (RdS w1 g1 A) := RdS.of_owns o1
  have B1 : Hid (Below w.heap.size w w1) := b1
  clear o1 b1
  go_wp2_with fail
  refine (ris_any A g1 w1 G1.out FA.out (by omega)).mono ?_
  rintro e w2 ⟨rfl, b2⟩
  have B2 : Hid (Below w.heap.size w w2) := B1.out.trans (b2.mono B1.out.size)
  clear b2 G1 B1
  cases sA : isB A
  · go_wp2_with fail
    refine (awake_any w2).mono ?_
    rintro e w3 ⟨rfl, b3⟩
    have B3 : Hid (Below w.heap.size w w3) := B2.out.trans (b3.mono B2.out.size)
    clear b3
    go_wp2
    first | go_ret | skip
    exact ⟨rfl, B3.out⟩
  · go_wp2_with fail
    refine (given_any B (.slice pb B.length cb) w2 (RB.out.below B2.out) lb).mono ?_
    rintro e w3 ⟨g3, rfl, o3, b3⟩
    have G3 : Hid (RdS w3 g3 B) := RdS.of_owns o3
    have B3 : Hid (Below w.heap.size w w3) := B2.out.trans (b3.mono B2.out.size)
    clear o3 b3 B2
    go_wp2_with fail
    refine (ris_any B g3 w3 G3.out FB.out (by omega)).mono ?_
    rintro e w4 ⟨rfl, b4⟩
    have B4 : Hid (Below w.heap.size w w4) := B3.out.trans (b4.mono B3.out.size)
    clear b4 G3 B3
    cases sB : isB B
    · go_wp2_with fail
      refine (awake_any w4).mono ?_
      rintro e w5 ⟨rfl, b5⟩
      have B5 : Hid (Below w.heap.size w w5) := B4.out.trans (b5.mono B4.out.size)
      clear b5
      go_wp2
      first | go_ret | skip
      exact ⟨rfl, B5.out⟩
    · have SA : Hid (isS 0 A = true) := (isB_iff.1 sA).2
      have SB : Hid (isS 0 B = true) := (isB_iff.1 sB).2
      have la2 := (isB_iff.1 sA).1
      have lb2 := (isB_iff.1 sB).1
      go_wp2_with fail
      refine (other_any A (.slice pa A.length ca) w4 (RA.out.below B4.out) FA.out la).mono ?_
      rintro e w5 ⟨vx, X, ex, rfl, o5, p5, b5⟩
      have O5 : Hid (w5.ownsRow w4.heap.size 57 2 vx X.length (celS X)) := o5
      have P5 : Hid (PutsP (isB A) (fun p => decide (0 ≤ p) && decide (p ≤ 1114111) && !hasB A p) X ex) := p5
      have B5 : Hid (Below w.heap.size w w5) := B4.out.trans (b5.mono B4.out.size)
      have C5_5 : Hid (Below w5.heap.size w5 w5) := Below.refl _ _
      clear o5 p5 b5
      have FX := puts_fit P5.out
      have HFX : Hid (fitS X) := FX.1
      have lX := FX.2
      clear FX
      go_wp2_with fail
      refine (other_any X vx w5 (RdS.of_owns O5.out) HFX.out (by omega)).mono ?_
      rintro e w6 ⟨vy, Y, ey, rfl, o6, p6, b6⟩
      have O6 : Hid (w6.ownsRow w5.heap.size 57 2 vy Y.length (celS Y)) := o6
      have P6 : Hid (PutsP (isB X) (fun p => decide (0 ≤ p) && decide (p ≤ 1114111) && !hasB X p) Y ey) := p6
      have B6 : Hid (Below w.heap.size w w6) := B5.out.trans (b6.mono B5.out.size)
      have C5_6 : Hid (Below w5.heap.size w5 w6) := C5_5.out.trans (b6.mono C5_5.out.size)
      have C6_6 : Hid (Below w6.heap.size w6 w6) := Below.refl _ _
      clear o6 p6 b6
      go_wp2_with fail
      refine (minus_any A B (.slice pa A.length ca) (.slice pb B.length cb) w6 (RA.out.below B6.out) (RB.out.below B6.out) FA.out FB.out la lb).mono ?_
      rintro e w7 ⟨vz, Z, ez, rfl, o7, p7, b7⟩
      have O7 : Hid (w7.ownsRow w6.heap.size 57 2 vz Z.length (celS Z)) := o7
      have P7 : Hid (PutsP (isB A && isB B) (fun p => hasB A p && !hasB B p) Z ez) := p7
      have B7 : Hid (Below w.heap.size w w7) := B6.out.trans (b7.mono B6.out.size)
      have C5_7 : Hid (Below w5.heap.size w5 w7) := C5_6.out.trans (b7.mono C5_6.out.size)
      have C6_7 : Hid (Below w6.heap.size w6 w7) := C6_6.out.trans (b7.mono C6_6.out.size)
      have C7_7 : Hid (Below w7.heap.size w7 w7) := Below.refl _ _
      clear o7 p7 b7
      go_wp2_with fail
      refine (other_any B (.slice pb B.length cb) w7 (RB.out.below B7.out) FB.out lb).mono ?_
      rintro e w8 ⟨vO, O, eO, rfl, o8, p8, b8⟩
      have O8 : Hid (w8.ownsRow w7.heap.size 57 2 vO O.length (celS O)) := o8
      have P8 : Hid (PutsP (isB B) (fun p => decide (0 ≤ p) && decide (p ≤ 1114111) && !hasB B p) O eO) := p8
      have B8 : Hid (Below w.heap.size w w8) := B7.out.trans (b8.mono B7.out.size)
      have C5_8 : Hid (Below w5.heap.size w5 w8) := C5_7.out.trans (b8.mono C5_7.out.size)
      have C6_8 : Hid (Below w6.heap.size w6 w8) := C6_7.out.trans (b8.mono C6_7.out.size)
      have C7_8 : Hid (Below w7.heap.size w7 w8) := C7_7.out.trans (b8.mono C7_7.out.size)
      have C8_8 : Hid (Below w8.heap.size w8 w8) := Below.refl _ _
      clear o8 p8 b8
      have FO := puts_fit P8.out
      have HFO : Hid (fitS O) := FO.1
      have lO := FO.2
      clear FO
      go_wp2_with fail
      refine (cross_any A O (.slice pa A.length ca) vO w8 (RA.out.below B8.out) (RdS.of_owns O8.out) FA.out HFO.out la (by omega)).mono ?_
      rintro e w9 ⟨vw, W, ew, rfl, o9, p9, b9⟩
      have O9 : Hid (w9.ownsRow w8.heap.size 57 2 vw W.length (celS W)) := o9
      have P9 : Hid (PutsP (isB A && isB O) (fun p => hasB A p && hasB O p) W ew) := p9
      have B9 : Hid (Below w.heap.size w w9) := B8.out.trans (b9.mono B8.out.size)
      have C5_9 : Hid (Below w5.heap.size w5 w9) := C5_8.out.trans (b9.mono C5_8.out.size)
      have C6_9 : Hid (Below w6.heap.size w6 w9) := C6_8.out.trans (b9.mono C6_8.out.size)
      have C7_9 : Hid (Below w7.heap.size w7 w9) := C7_8.out.trans (b9.mono C7_8.out.size)
      have C8_9 : Hid (Below w8.heap.size w8 w9) := C8_8.out.trans (b9.mono C8_8.out.size)
      have C9_9 : Hid (Below w9.heap.size w9 w9) := Below.refl _ _
      clear o9 p9 b9
      have h9 := B9.out.size
      have BW : Hid (Below w.heap.size w (w9.alloc (.cells #[(.slice pa A.length ca), (.slice pb B.length cb)] 22))) := B9.out.alloc h9 _
      go_wp2_with fail
      refine (union2_any A B (.slice pa A.length ca) (.slice pb B.length cb) w9.heap.size _ (cells_new w9 #[(.slice pa A.length ca), (.slice pb B.length cb)] 22 0 _ rfl) (cells_new w9 #[(.slice pa A.length ca), (.slice pb B.length cb)] 22 1 _ rfl) (RA.out.below BW.out) (RB.out.below BW.out) FA.out FB.out sA sB).mono ?_
      rintro e w10 ⟨vu, U, at0, eu, rfl, o10, p10, b10⟩
      have O10 : Hid (w10.ownsRow w9.heap.size 57 2 vu U.length (celS U)) := owns_lo o10 (by simp)
      have P10 : Hid (A.length + B.length ≤ 65536 → eu = 0 ∧ isS 0 U = true ∧ (∀ p, hasB U p = (hasB A p || hasB B p)) ∧ U.length ≤ 65536) := p10
      have b9 : Below w9.heap.size w9 w10 := ((Below.refl _ w9).alloc (Nat.le_refl _) _).trans (b10.mono (by simp))
      have B10 : Hid (Below w.heap.size w w10) := B9.out.trans (b9.mono h9)
      have C5_10 : Hid (Below w5.heap.size w5 w10) := C5_9.out.trans (b9.mono C5_9.out.size)
      have C6_10 : Hid (Below w6.heap.size w6 w10) := C6_9.out.trans (b9.mono C6_9.out.size)
      have C7_10 : Hid (Below w7.heap.size w7 w10) := C7_9.out.trans (b9.mono C7_9.out.size)
      have C8_10 : Hid (Below w8.heap.size w8 w10) := C8_9.out.trans (b9.mono C8_9.out.size)
      have C9_10 : Hid (Below w9.heap.size w9 w10) := C9_9.out.trans (b9.mono C9_9.out.size)
      have C10_10 : Hid (Below w10.heap.size w10 w10) := Below.refl _ _
      clear o10 p10 b10 b9 BW h9
      go_wp2_with fail
      refine (cross_any A B (.slice pa A.length ca) (.slice pb B.length cb) w10 (RA.out.below B10.out) (RB.out.below B10.out) FA.out FB.out la lb).mono ?_
      rintro e w11 ⟨vv, V, ev, rfl, o11, p11, b11⟩
      have O11 : Hid (w11.ownsRow w10.heap.size 57 2 vv V.length (celS V)) := o11
      have P11 : Hid (PutsP (isB A && isB B) (fun p => hasB A p && hasB B p) V ev) := p11
      have B11 : Hid (Below w.heap.size w w11) := B10.out.trans (b11.mono B10.out.size)
      have C5_11 : Hid (Below w5.heap.size w5 w11) := C5_10.out.trans (b11.mono C5_10.out.size)
      have C6_11 : Hid (Below w6.heap.size w6 w11) := C6_10.out.trans (b11.mono C6_10.out.size)
      have C7_11 : Hid (Below w7.heap.size w7 w11) := C7_10.out.trans (b11.mono C7_10.out.size)
      have C8_11 : Hid (Below w8.heap.size w8 w11) := C8_10.out.trans (b11.mono C8_10.out.size)
      have C9_11 : Hid (Below w9.heap.size w9 w11) := C9_10.out.trans (b11.mono C9_10.out.size)
      have C10_11 : Hid (Below w10.heap.size w10 w11) := C10_10.out.trans (b11.mono C10_10.out.size)
      have C11_11 : Hid (Below w11.heap.size w11 w11) := Below.refl _ _
      clear o11 p11 b11
      go_wp2_with fail
      refine (make_any A (.slice pa A.length ca) w11 (RA.out.below B11.out) (by omega)).mono ?_
      rintro e w12 ⟨vo, M, im, em, rfl, o12, p12, b12⟩
      obtain ⟨rfl, rfl⟩ := make_is p12 sA
      have O12 : Hid (w12.ownsRow w11.heap.size 57 2 vo M.length (celS M)) := o12
      have B12 : Hid (Below w.heap.size w w12) := B11.out.trans (b12.mono B11.out.size)
      have C5_12 : Hid (Below w5.heap.size w5 w12) := C5_11.out.trans (b12.mono C5_11.out.size)
      have C6_12 : Hid (Below w6.heap.size w6 w12) := C6_11.out.trans (b12.mono C6_11.out.size)
      have C7_12 : Hid (Below w7.heap.size w7 w12) := C7_11.out.trans (b12.mono C7_11.out.size)
      have C8_12 : Hid (Below w8.heap.size w8 w12) := C8_11.out.trans (b12.mono C8_11.out.size)
      have C9_12 : Hid (Below w9.heap.size w9 w12) := C9_11.out.trans (b12.mono C9_11.out.size)
      have C10_12 : Hid (Below w10.heap.size w10 w12) := C10_11.out.trans (b12.mono C10_11.out.size)
      have C11_12 : Hid (Below w11.heap.size w11 w12) := C11_11.out.trans (b12.mono C11_11.out.size)
      clear o12 p12 b12
      by_cases cl : 65536 ≤ M.length + B.length
      · have cl' : (65536 : Int) ≤ (M.length : Int) + (B.length : Int) := by omega
        go_wp2_with fail
        refine (awake_any w12).mono ?_
        rintro e w13 ⟨rfl, b13⟩
        have B13 : Hid (Below w.heap.size w w13) := B12.out.trans (b13.mono B12.out.size)
        clear b13
        go_wp2
        first | go_ret | skip
        exact ⟨rfl, B13.out⟩
      · have cl' : (M.length : Int) ≤ 65536 ∧ (B.length : Int) ≤ 65536 := by omega
        have cl2 : decide ((65536 : Int) ≤ (M.length : Int) + (B.length : Int)) = false := decide_eq_false (by omega)
        have RSA := rest_set M 0 (by decide) SA.out
        have RLA := rest_len M 0
        have RSB := rest_set B 0 (by decide) SB.out
        have RLB := rest_len B 0
        have CSN := common_set _ M (restL 0 B) 0 0 (Nat.le_refl _) SA.out RSB.1
        have CLN := common_len _ M (restL 0 B) (Nat.le_refl _)
        have CSV := common_set _ M B 0 0 (Nat.le_refl _) SA.out SB.out
        have CLV := common_len _ M B (Nat.le_refl _)
        have q5 := P5.out
        rw [sA] at q5
        obtain ⟨rfl, rfl⟩ := puts_is q5 RSA.1 RSA.2 (by omega)
        have sX : isB (restL 0 M) = true := isB_iff.2 ⟨by omega, RSA.1⟩
        have q6 := P6.out
        rw [sX] at q6
        obtain ⟨hY, rfl⟩ := puts_is q6 SA.out (other_back SA.out RSA.2) la2
        have q7 := P7.out
        rw [sA, sB] at q7
        obtain ⟨hZ, rfl⟩ := puts_is q7 CSN.1 (fun p => by rw [CSN.2 p, RSB.2 p, minus_has SA.out]) (by omega)
        have q8 := P8.out
        rw [sB] at q8
        obtain ⟨hO, rfl⟩ := puts_is q8 RSB.1 RSB.2 (by omega)
        have sO : isB O = true := isB_iff.2 ⟨lO, by rw [hO]; exact RSB.1⟩
        have q9 := P9.out
        rw [sA, sO] at q9
        obtain ⟨hW, rfl⟩ := puts_is q9 CSN.1 (fun p => by rw [CSN.2 p, hO]) (by omega)
        obtain ⟨rfl, sU1, hU, lU⟩ := P10.out (by omega)
        have q11 := P11.out
        rw [sA, sB] at q11
        obtain ⟨hV, rfl⟩ := puts_is q11 CSV.1 CSV.2 (by omega)
        have sU : isB U = true := isB_iff.2 ⟨lU, sU1⟩
        have sV : isB V = true := isB_iff.2 ⟨by rw [hV]; omega, by rw [hV]; exact CSV.1⟩
        have HT : Hid ((commonL M (restL 0 B)).length ≤ 1000000) := by rw [Hid]; omega
        have RX : Hid (RdS w12 vx (restL 0 M)) := owns_rd2 O5.out C5_12.out
        have RY : Hid (RdS w12 vy M) := hY ▸ owns_rd2 O6.out C6_12.out
        have RZ : Hid (RdS w12 vz (commonL M (restL 0 B))) := hZ ▸ owns_rd2 O7.out C7_12.out
        have RW : Hid (RdS w12 vw (commonL M (restL 0 B))) := hW ▸ owns_rd2 O9.out C9_12.out
        have RU : Hid (RdS w12 vu U) := owns_rd2 O10.out C10_12.out
        have RV : Hid (RdS w12 vv V) := owns_rd2 O11.out C11_12.out
        have RO : Hid (RdS w12 vo M) := RdS.of_owns O12.out
        have HV : Hid (∀ p, hasB V p = (hasB M p && hasB B p)) := fun p => by rw [hV]; exact CSV.2 p
        have HX : Hid (∀ p, hasB (restL 0 M) p = (decide (0 ≤ p) && decide (p ≤ 1114111) && !hasB M p)) := RSA.2
        have HU : Hid (∀ p, hasB U p = (hasB M p || hasB B p)) := hU
        clear q5 q6 q7 q8 q9 q11 P5 P6 P7 P8 P9 P10 P11 O5 O6 O7 O8 O9 O10 O11 O12 hY hZ hO hW hU hV RSA RLA RSB RLB CSN CLN CSV CLV
        generalize restL 0 M = RX0 at *
        generalize commonL M (restL 0 B) = RT0 at *
        obtain ⟨cl3, cl4⟩ := cl'
        clear lX lO lU la2 lb2 cl la lb hi sU1
        go_wp2_with fail
        refine (awake_any w12).mono ?_
        rintro e w13 ⟨rfl, b13⟩
        have B13 : Hid (Below w.heap.size w w13) := B12.out.trans (b13.mono B12.out.size)
        have D13 : Hid (Below w12.heap.size w12 w13) := b13
        clear b13
        go_wp2_with fail
        exact HZ.out RX0 RT0 U V vx vy vz vw vu vv vo _ w13 B13.out sA sB sX sU sV HT.out (RX.out.below D13.out) (RY.out.below D13.out) (RZ.out.below D13.out) (RW.out.below D13.out) (RU.out.below D13.out) (RV.out.below D13.out) (RO.out.below D13.out) HX.out HU.out HV.out ⟨rfl, rfl, rfl, rfl, rfl, rfl, rfl, rfl, rfl, rfl, rfl, rfl, trivial⟩
end Go.Proofs.Ytddoanmhikldiaa
