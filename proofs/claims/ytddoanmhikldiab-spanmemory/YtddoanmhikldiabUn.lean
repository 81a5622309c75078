/-
  The contracts of Union, and of what the statement asks beside: refused, told. Conditions: the numbers fit; the lists take no more bytes than there are.
-/
import Derived.Test.YtddoanmhikldiabTg
import Derived.Test.YtddoanmhikldiabRi
import Derived.Test.YtddoanmhikldiabAl
namespace Go.Proofs.Ytddoanmhikldiab
open Go.RowKit
/-- Lists behind one another that read as these. -/
def RdL (w : World) (g off : Nat) (Ls : List (List Sn)) : Prop :=
  ∀ j, j < Ls.length → ∃ vj, w.cell? ⟨g, off + j, none⟩ = some vj ∧ RdS w vj (Ls.getD j []) ∧ fitS (Ls.getD j []) ∧ (Ls.getD j []).length ≤ 17592186044416
theorem RdL.below {w w' : World} {g off : Nat} {Ls : List (List Sn)} (h : RdL w g off Ls) (hb : Below w.heap.size w w') : RdL w' g off Ls := fun j hj => by
  obtain ⟨v, h1, h2, h3⟩ := h j hj
  exact ⟨v, (hb.cell (p := ⟨g, off + j, none⟩) (by simpa using World.block_lt_of_cell? w _ h1)).trans h1, h2.below hb, h3⟩
/-- What Union answers. -/
def UnionP (Ls : List (List Sn)) (f : Int → Bool) (X : List Sn) (at0 er : Int) : Prop :=
  (∃ k : Nat, k < Ls.length ∧ isB (Ls.getD k []) = false ∧ (∀ j, j < k → isB (Ls.getD j []) = true) ∧ X = [] ∧ at0 = k ∧ er = 70) ∨
  ((∀ j, j < Ls.length → isB (Ls.getD j []) = true) ∧ at0 = 0 ∧ ∃ S, isS 0 S = true ∧ (∀ p, hasB S p = f p) ∧ S.length ≤ 1000000 ∧ (S.length ≤ 65536 → X = S ∧ er = 0) ∧ (65536 < S.length → X = [] ∧ er = 71))
set_option maxRecDepth 100000 in
set_option maxHeartbeats 1000000 in
theorem union_gen (Ls : List (List Sn)) (f : Int → Bool) (M n g off c : Nat) (w : World) (hn : Ls.length = n) (hn3 : n ≤ 3) (hr : RdL w g off Ls) (hM : M ≤ 1000000)
    (kT : (∀ j, j < Ls.length → isB (Ls.getD j []) = true) → ∀ w1 : World, Below w.heap.size w w1 → Calls Try.prog 23 #[.slice (some ⟨g, off, none⟩) n c] w1 fun e w' => ∃ v', e = .returned v' ∧ SetO f M w1.heap.size v' w' ∧ Below w1.heap.size w1 w') : Calls Try.prog 11 #[.slice (some ⟨g, off, none⟩) n c] w fun e w' => ∃ v' X at0 er, e = .returned (.tuple #[v', .int .i64 at0, .int .i64 er]) ∧ w'.ownsRow w.heap.size 41 2 v' X.length (celS X) ∧ UnionP Ls f X at0 er ∧ Below w.heap.size w w' := by
  have HR : Hid (RdL w g off Ls) := hr
  have HN : Hid (Ls.length = n) := hn
  have KT : Hid (∀ w1 : World, (∀ j, j < Ls.length → isB (Ls.getD j []) = true) → Below w.heap.size w w1 → Calls Try.prog 23 #[.slice (some ⟨g, off, none⟩) n c] w1 fun e w' => ∃ v', e = .returned v' ∧ SetO f M w1.heap.size v' w' ∧ Below w1.heap.size w1 w') := fun w1 h hb => kT h w1 hb
  clear hr kT hn
  go_enter Try.func11, Try.ntmps11
  go_wp2_with fail
  go_loopw [5, 11] (fun _ y wr => ∃ k : Nat, k ≤ n ∧ y = .int .i64 (k : Nat) ∧ Hid (∀ j, j < k → isB (Ls.getD j []) = true) ∧ Hid (Below w.heap.size w wr)) (fun _ y _ => (n - (intOf y).toNat : Nat))
  case atStart => exact ⟨0, Nat.zero_le _, rfl, fun j hj => by omega, Below.refl _ _⟩
  case round =>
    obtain ⟨k, hk, rfl, hM2, hB⟩ := hrel
    by_cases hkl : k < n
    · obtain ⟨vk, h1, h2, h3, h4⟩ := HR.out.below hB.out k (by have := HN.out; omega)
      have kl : (k : Int) < (n : Int) := by omega
      have H2 : Hid (RdS wr vk (Ls.getD k [])) := h2
      have H3 : Hid (fitS (Ls.getD k [])) := h3
      have H4 : Hid ((Ls.getD k []).length ≤ 17592186044416) := h4
      clear h2 h3 h4
      go_wp2_with fail
      refine (is_any (Ls.getD k []) vk wr H2.out H3.out (by have := H4.out; omega)).mono ?_
      rintro e w1 ⟨rfl, b1⟩
      have B1 : Hid (Below w.heap.size w w1) := hB.out.trans (b1.mono hB.out.size)
      clear b1
      generalize hib : isB (Ls.getD k []) = b
      have HIB : Hid (isB (Ls.getD k []) = b) := hib
      clear hib
      cases b
      · go_wp2
        go_ret3
        exact ⟨_, [], _, _, rfl, World.ownsRow_nil _ _ _ _, .inl ⟨k, by have := HN.out; omega, HIB.out, hM2.out, rfl, rfl, rfl⟩, B1.out⟩
      · have hM3 : Hid (∀ j, j < k + 1 → isB (Ls.getD j []) = true) := fun j hj => by
          by_cases c : j = k
          · rw [c]; exact HIB.out
          · exact hM2.out j (by omega)
        go_wp2
        refine ⟨⟨k + 1, by omega, by go_num, hM3.out, B1.out⟩, by simp [intOf]; omega⟩
    · have hkk : k = n := by omega
      subst hkk
      have hall : Hid (∀ j, j < Ls.length → isB (Ls.getD j []) = true) := fun j hj => hM2.out j (by have := HN.out; omega)
      go_wp2_with fail
      refine (KT.out wr hall.out hB.out).mono ?_
      rintro e w1 ⟨v1, rfl, ⟨S, o1, s1, s2, s3⟩, b1⟩
      have O1 : Hid (w1.ownsRow wr.heap.size 41 2 v1 S.length (celS S)) := o1
      have S1 : Hid (isS 0 S = true) := s1
      have S2 : Hid (∀ p, hasB S p = f p) := s2
      have B1 : Hid (Below w.heap.size w w1) := hB.out.trans (b1.mono hB.out.size)
      have hbs := hB.out.size
      clear o1 s1 s2 b1 KT
      go_wp2_with fail
      refine (limited_any S _ v1 w1 O1.out (by omega)).mono ?_
      rintro e w4 ⟨v4, X4, er, rfl, rfl, o4, h1, h2⟩
      have O4 : Hid (w4.ownsRow w.heap.size 41 2 v4 X4.length (celS X4)) := owns_lo o4 hbs
      have H1 : Hid (S.length ≤ 65536 → X4 = S ∧ er = 0) := h1
      have H2 : Hid (65536 < S.length → X4 = [] ∧ er = 71) := h2
      clear o4 h1 h2 O1
      go_wp2
      go_ret3
      exact ⟨v4, X4, _, _, rfl, O4.out, .inr ⟨hall.out, rfl, S, S1.out, S2.out, by omega, H1.out, H2.out⟩, B1.out⟩
theorem union_none (w : World) : Calls Try.prog 11 #[.slice none 0 0] w fun e w' => e = .returned (.tuple #[.slice none 0 0, .int .i64 0, .int .i64 0]) ∧ Below w.heap.size w w' := by
  go_enter Try.func11, Try.ntmps11
  go_wp2_with fail
  go_loopw [5, 11] (fun _ y wr => y = .int .i64 0 ∧ Hid (wr = w)) (fun _ _ _ => 0)
  case atStart => exact ⟨rfl, rfl⟩
  case round =>
    obtain ⟨rfl, hw⟩ := hrel
    rw [hw.out]
    go_wp2_with fail
    refine (tog_none w).mono ?_
    rintro e w1 ⟨rfl, hw1⟩
    rw [hw1]
    clear hw1
    go_wp2_with fail
    refine (limited_any [] w.heap.size _ w (World.ownsRow_nil _ _ _ _) (by simp)).mono ?_
    rintro e w2 ⟨v2, X2, er, rfl, hw2, o2, h1, _⟩
    rw [hw2] at o2 ⊢
    obtain ⟨rfl, rfl⟩ := h1 (by simp)
    obtain ⟨_, ⟨rfl, _⟩ | ⟨g, cap, cur, rfl, h3, h4, _⟩⟩ := o2
    · clear hw2 h1
      go_wp2
      go_ret3
      exact ⟨rfl, Below.refl _ _⟩
    · exact absurd (Array.getElem?_eq_some_iff.1 h4).1 (by omega)
theorem tog2 (A B : List Sn) (va vb : Value) (g off c : Nat) (w : World) (hc : 2 ≤ c) (h0 : w.cell? ⟨g, off, none⟩ = some va) (h1 : w.cell? ⟨g, off + 1, none⟩ = some vb) (ha : RdS w va A) (hb : RdS w vb B) (sa : isB A = true) (sb : isB B = true) : ∀ w1 : World, Below w.heap.size w w1 → Calls Try.prog 23 #[.slice (some ⟨g, off, none⟩) 2 c] w1 fun e w' => ∃ v', e = .returned v' ∧ SetO (fun p => hasB A p || hasB B p) (A.length + B.length) w1.heap.size v' w' ∧ Below w1.heap.size w1 w' := fun w1 hb1 => by
  obtain ⟨la, sa⟩ := isB_iff.1 sa
  obtain ⟨lb, sb⟩ := isB_iff.1 sb
  refine tog_many (hasB A) (hasB B) A.length B.length g off 2 c w1 (.inl rfl) hc (by omega) (fun w2 hb2 => ?_) (fun w2 hb2 => ?_)
  · have hb3 := hb1.trans (hb2.mono hb1.size)
    refine (tog_one A va g off c w2 ((hb3.cell (p := ⟨g, off, none⟩) (by simpa using World.block_lt_of_cell? w _ h0)).trans h0) (ha.below hb3) (by omega)).mono ?_
    rintro e w3 ⟨v, rfl, o, b⟩
    exact ⟨v, rfl, ⟨A, RdS.of_owns o, sa, fun _ => rfl, Nat.le_refl _⟩, b⟩
  · have hb3 := hb1.trans (hb2.mono hb1.size)
    refine (tog_one B vb g (off + 1) (c - 1) w2 ((hb3.cell (p := ⟨g, off + 1, none⟩) (by simpa using World.block_lt_of_cell? w _ h1)).trans h1) (hb.below hb3) (by omega)).mono ?_
    rintro e w3 ⟨v, rfl, o, b⟩
    exact ⟨v, rfl, ⟨B, RdS.of_owns o, sb, fun _ => rfl, Nat.le_refl _⟩, b⟩
theorem tog3 (A B C : List Sn) (va vb vc : Value) (g off c : Nat) (w : World) (hc : 3 ≤ c) (h0 : w.cell? ⟨g, off, none⟩ = some va) (h1 : w.cell? ⟨g, off + 1, none⟩ = some vb) (h2 : w.cell? ⟨g, off + 1 + 1, none⟩ = some vc) (ha : RdS w va A) (hb : RdS w vb B) (hcc : RdS w vc C) (sa : isB A = true) (sb : isB B = true) (sc : isB C = true) : ∀ w1 : World, Below w.heap.size w w1 → Calls Try.prog 23 #[.slice (some ⟨g, off, none⟩) 3 c] w1 fun e w' => ∃ v', e = .returned v' ∧ SetO (fun p => hasB A p || (hasB B p || hasB C p)) (A.length + (B.length + C.length)) w1.heap.size v' w' ∧ Below w1.heap.size w1 w' := fun w1 hb1 => by
  obtain ⟨la, sa'⟩ := isB_iff.1 sa
  obtain ⟨lb, sb'⟩ := isB_iff.1 sb
  obtain ⟨lc, sc'⟩ := isB_iff.1 sc
  refine tog_many (hasB A) (fun p => hasB B p || hasB C p) A.length (B.length + C.length) g off 3 c w1 (.inr rfl) hc (by omega) (fun w2 hb2 => ?_) (fun w2 hb2 => ?_)
  · have hb3 := hb1.trans (hb2.mono hb1.size)
    refine (tog_one A va g off c w2 ((hb3.cell (p := ⟨g, off, none⟩) (by simpa using World.block_lt_of_cell? w _ h0)).trans h0) (ha.below hb3) (by omega)).mono ?_
    rintro e w3 ⟨v, rfl, o, b⟩
    exact ⟨v, rfl, ⟨A, RdS.of_owns o, sa', fun _ => rfl, Nat.le_refl _⟩, b⟩
  · have hb3 := hb1.trans (hb2.mono hb1.size)
    refine (tog2 B C vb vc g (off + 1) (c - 1) w (by omega) h1 h2 hb hcc sb sc w2 hb3).mono ?_
    rintro e w3 ⟨v, rfl, o, b⟩
    exact ⟨v, rfl, o.rd, b⟩
/-- Which list is no set. -/
def NoP (Ls : List (List Sn)) (i : Int) (no : Bool) : Prop :=
  (∃ k : Nat, k < Ls.length ∧ isB (Ls.getD k []) = false ∧ (∀ j, j < k → isB (Ls.getD j []) = true) ∧ i = k ∧ no = true) ∨ ((∀ j, j < Ls.length → isB (Ls.getD j []) = true) ∧ i = 0 ∧ no = false)
end Go.Proofs.Ytddoanmhikldiab
