/-
  The contracts of the document's insert and Has. Conditions: the lists are not too long.
-/
import Derived.Test.YtddoanmhikldiaaIn
namespace Go.Proofs.Ytddoanmhikldiaa
open Go.RowKit
def insL : List Int → Int → List Int
  | [], p => [p]
  | x :: l, p => if x < p then x :: insL l p else if x = p then x :: l else p :: x :: l
theorem ins_at : ∀ (k : Nat) (l : List Int) (p : Int), (∀ j, j < k → l.getD j 0 < p) → k ≤ l.length → insL l p = l.take k ++ insL (l.drop k) p := by
  intro k
  induction k with
  | zero => intro l p _ _; simp
  | succ k ih =>
    intro l p h hk
    cases l with
    | nil => simp at hk
    | cons x l =>
      have h0 := h 0 (by omega)
      simp at h0
      rw [insL, if_pos h0, ih l p (fun j hj => by have := h (j + 1) (by omega); simpa using this) (by simpa using hk)]
      simp
theorem ins_mem (l : List Int) (p x : Int) : x ∈ insL l p ↔ x ∈ l ∨ x = p := by
  induction l with
  | nil => simp [insL]
  | cons y l ih =>
    unfold insL
    split
    · simp only [List.mem_cons, ih]
      constructor
      · rintro (h | h | h) <;> simp [h]
      · rintro ((h | h) | h) <;> simp [h]
    · split
      · rename_i h; simp only [List.mem_cons]; constructor
        · intro h; exact .inl h
        · rintro (h' | h')
          · exact h'
          · left; omega
      · simp only [List.mem_cons]
        constructor
        · rintro (h | h | h) <;> simp [h]
        · rintro ((h | h) | h) <;> simp [h]
theorem ins_rise (l : List Int) (p : Int) (h : l.Pairwise (· < ·)) : (insL l p).Pairwise (· < ·) := by
  induction l with
  | nil => simp [insL]
  | cons y l ih =>
    have h' := List.pairwise_cons.1 h
    unfold insL
    split
    · rename_i c
      refine List.pairwise_cons.2 ⟨fun x hx => ?_, ih h'.2⟩
      rcases (ins_mem l p x).1 hx with h1 | h1
      · exact h'.1 x h1
      · omega
    · split
      · exact h
      · rename_i c1 c2
        refine List.pairwise_cons.2 ⟨fun x hx => ?_, h⟩
        rcases List.mem_cons.1 hx with h1 | h1
        · omega
        · have := h'.1 x h1; omega
theorem ins_len (l : List Int) (p : Int) : (insL l p).length ≤ l.length + 1 ∧ l.length ≤ (insL l p).length := by
  induction l with
  | nil => simp [insL]
  | cons y l ih =>
    unfold insL
    split
    · simp; omega
    · split <;> simp
theorem drop_cons (l : List Int) (k : Nat) (h : k < l.length) : l.drop k = l.getD k 0 :: l.drop (k + 1) := by
  rw [List.drop_eq_getElem_cons h]; simp [List.getD, List.getElem?_eq_getElem h]
theorem owns_sl {W : World} {b e size n : Nat} {v : Value} {xs : List Value} (h : W.ownsRow b e size v n xs) (hn : 0 < n) : ∃ g c, v = .slice (some ⟨g, 0, none⟩) n c ∧ n ≤ c ∧ ∀ i u, xs[i]? = some u → W.cell? ⟨g, i, none⟩ = some u := by
  have h0 := h
  obtain ⟨h1, ⟨h2, h3⟩ | ⟨g', cap', cur, rfl, h3, h4, h5, h6, h7, h8⟩⟩ := h
  · omega
  · refine ⟨g', cap', rfl, h5, fun i u hi => ?_⟩
    have hl : i < n * size := by rw [← h1]; exact (List.getElem?_eq_some_iff.1 hi).1
    rw [← h8, List.getElem?_take_of_lt hl, Array.getElem?_toList] at hi
    simp [World.cell?, h4, hi]
theorem RdI.of_owns {w : World} {b e : Nat} {v : Value} {l : List Int} (h : w.ownsRow b e 1 v l.length (celI l)) (hl : 0 < l.length) : RdI w v l := by
  obtain ⟨g, c, rfl, hc, hd⟩ := owns_sl h hl
  refine ⟨g, 0, c, rfl, hc, fun j hj => ?_⟩
  rw [Nat.zero_add]
  exact hd j _ (by simp [celI, List.getD, List.getElem?_eq_getElem hj])
set_option maxRecDepth 100000 in
set_option maxHeartbeats 1000000 in
theorem insert_any (l : List Int) (p : Int) (v : Value) (w : World) (hr : RdI w v l) (h0 : 0 < l.length) (hl : l.length ≤ 1000000000) : Calls Try.prog 50 #[v, .int .i32 p] w fun e w' => ∃ v', e = .returned v' ∧ RdI w' v' (insL l p) ∧ Below w.heap.size w w' := by
  have HR : Hid (RdI w v l) := hr
  obtain ⟨g, off, c, rfl, hlc, hd⟩ := hr
  have HD : Hid (∀ j, j < l.length → w.cell? ⟨g, off + j, none⟩ = some (.int .i32 (l.getD j 0))) := hd
  clear hd
  have H6 : Hid (∀ (Q : Exit → Act → World → Prop) (at0 : Nat) (a : Act), at0 ≤ l.length → (Hid (∀ a w2 vt, Below w.heap.size w w2 → w2.ownsRow w.heap.size 21 1 vt (l.length + 1) (celI (l.take at0 ++ [p] ++ l.drop at0)) → At 45 [(4, vt)] a → Code.wp Try.prog (sq 5 body50) Q a w2)) → At 45 [(0, .slice (some ⟨g, off, none⟩) l.length c), (1, .int .i32 p), (5, .int .i64 (at0 : Nat))] a → Code.wp Try.prog (sq 4 body50) Q a w) := fun Q at0 a h1 h2 h3 => ins_6 l p g off l.length c at0 a w rfl h1 hl hlc HD.out h2 h3
  go_enter Try.func50, Try.ntmps50
  change Code.wp _ (Code.seq (hd (sq 0 body50)) (Code.seq (hd (sq 1 body50)) (Code.seq (hd (sq 2 body50)) (Code.seq (hd (sq 3 body50)) (sq 4 body50))))) _ _ _
  generalize sq 4 body50 = REST at H6 ⊢
  conv => arg 2; arg 1; whnf
  conv => arg 2; arg 2; arg 1; whnf
  conv => arg 2; arg 2; arg 2; arg 1; whnf
  conv => arg 2; arg 2; arg 2; arg 2; arg 1; whnf
  go_wp2_with fail
  go_loopw [5] (fun y wr => ∃ k : Nat, k ≤ l.length ∧ y = .int .i64 (k : Nat) ∧ Hid (∀ j, j < k → l.getD j 0 < p) ∧ Hid (wr = w)) (fun y _ => (l.length - (intOf y).toNat : Nat))
  case atStart => exact ⟨0, Nat.zero_le _, rfl, fun j hj => by omega, rfl⟩
  case round =>
    obtain ⟨k, hk, rfl, hP, hw⟩ := hrel
    rw [hw.out]
    clear hw
    by_cases hkl : k < l.length
    · have e1 := HD.out k hkl
      have kl : (k : Int) < (l.length : Int) := by omega
      have hdc : Hid (l.drop k = l.getD k 0 :: l.drop (k + 1)) := drop_cons l k hkl
      have hia : Hid (insL l p = l.take k ++ insL (l.drop k) p) := ins_at k l p hP.out hk
      have hnx : Hid (l.getD k 0 < p → ∀ j, j < k + 1 → l.getD j 0 < p) := fun h j hj => by
        by_cases c : j = k
        · rw [c]; exact h
        · exact hP.out j (by omega)
      generalize l.getD k 0 = x at e1 hdc hnx
      by_cases c1 : x < p
      · have hP2 : Hid (∀ j, j < k + 1 → l.getD j 0 < p) := hnx.out c1
        go_wp2
        refine ⟨⟨k + 1, by omega, by go_num, hP2.out, trivial⟩, by simp [intOf]; omega⟩
      · have c1' : decide (x < p) = false := decide_eq_false c1
        by_cases c2 : x = p
        · subst c2
          have hre : Hid (insL l x = l) := by
            rw [Hid, hia.out, hdc.out, insL, if_neg c1, if_pos rfl, ← hdc.out, List.take_append_drop]
          clear c1
          go_wp2
          go_ret
          exact ⟨_, rfl, by rw [hre.out]; exact HR.out, Below.refl _ _⟩
        · have c2' : (x == p) = false := by simpa using c2
          have hre : Hid (insL l p = l.take k ++ [p] ++ l.drop k) := by
            rw [Hid, hia.out, hdc.out, insL, if_neg c1, if_neg c2]; simp
          clear c1 c2
          go_wp2_with fail
          refine H6.out _ k _ hk (fun a w2 vt B2 O2 ha => ?_) ⟨rfl, rfl, rfl, rfl, rfl, trivial⟩
          obtain ⟨f, rfl, h4, -⟩ := ha.lit
          change Code.wp _ _ _ ⟨#[f 0, f 1, f 2, f 3, f 4, f 5, f 6, f 7, f 8, f 9, f 10, f 11, f 12, f 13, f 14, f 15, f 16, f 17, f 18, f 19, f 20, f 21, f 22, f 23, f 24, f 25, f 26, f 27, f 28, f 29, f 30, f 31, f 32, f 33, f 34, f 35, f 36, f 37, f 38, f 39, f 40, f 41, f 42, f 43, f 44], []⟩ _
          simp only at h4
          simp only [h4]
          conv => arg 2; whnf
          go_wp2
          go_ret
          refine ⟨_, rfl, ?_, B2⟩
          rw [hre.out]
          exact RdI.of_owns (b := w.heap.size) (e := 21) (by rw [show (l.take k ++ [p] ++ l.drop k).length = l.length + 1 by simp; omega]; exact O2) (by simp; omega)
    · have hkk : k = l.length := by omega
      subst hkk
      have hre : Hid (insL l p = l.take l.length ++ [p] ++ l.drop l.length) := by
        rw [Hid, ins_at l.length l p hP.out hk]; simp [insL]
      go_wp2_with fail
      refine H6.out _ l.length _ (Nat.le_refl _) (fun a w2 vt B2 O2 ha => ?_) ⟨rfl, rfl, rfl, rfl, rfl, trivial⟩
      obtain ⟨f, rfl, h4, -⟩ := ha.lit
      change Code.wp _ _ _ ⟨#[f 0, f 1, f 2, f 3, f 4, f 5, f 6, f 7, f 8, f 9, f 10, f 11, f 12, f 13, f 14, f 15, f 16, f 17, f 18, f 19, f 20, f 21, f 22, f 23, f 24, f 25, f 26, f 27, f 28, f 29, f 30, f 31, f 32, f 33, f 34, f 35, f 36, f 37, f 38, f 39, f 40, f 41, f 42, f 43, f 44], []⟩ _
      simp only at h4
      simp only [h4]
      conv => arg 2; whnf
      go_wp2
      go_ret
      refine ⟨_, rfl, ?_, B2⟩
      rw [hre.out]
      exact RdI.of_owns (b := w.heap.size) (e := 21) (by rw [show (l.take l.length ++ [p] ++ l.drop l.length).length = l.length + 1 by simp]; exact O2) (by simp)
set_option maxRecDepth 100000 in
set_option maxHeartbeats 1000000 in
theorem rhas_any (L : List Sn) (p : Int) (v : Value) (w : World) (hr : RdS w v L) (hl : L.length ≤ 35184372088832) : Calls Try.prog 27 #[v, .int .i32 p] w fun e w' => e = .returned (.bool (hasB L p)) ∧ Below w.heap.size w w' := by
  obtain ⟨a, c, rfl, hlc, hc⟩ := hr
  have HC : Hid _ := hc
  clear hc
  go_enter Try.func27, Try.ntmps27
  go_wp2_with fail
  go_loopw [4, 5] (fun _ y wr => ∃ k : Nat, k ≤ L.length ∧ y = .int .i64 (k : Nat) ∧ Hid (hasB (L.take k) p = false) ∧ Hid (wr = w)) (fun _ y _ => (L.length - (intOf y).toNat : Nat))
  case atStart => exact ⟨0, Nat.zero_le _, rfl, rfl, rfl⟩
  case round =>
    obtain ⟨k, hk, rfl, hP, hw⟩ := hrel
    rw [hw.out]
    clear hw
    by_cases hkl : k < L.length
    · obtain ⟨g, off, rfl, hd⟩ := HC.out (by omega)
      obtain ⟨e1, e2⟩ := hd k hkl
      have kl : (k : Int) < (L.length : Int) := by omega
      clear hd HC
      have hsn : Hid (hasB (L.take (k + 1)) p = inB (L.getD k (0, 0)) p) := by rw [Hid, take_snoc L k hkl, has_app, hP.out, has_one, Bool.false_or]
      have hyes : Hid (inB (L.getD k (0, 0)) p = true → hasB L p = true) := fun h => by
        rw [← List.take_append_drop (k + 1) L, has_app, hsn.out, h, Bool.true_or]
      generalize L.getD k (0, 0) = s at *
      obtain ⟨x, y⟩ := s
      by_cases c1 : x ≤ p
      · by_cases c2 : p ≤ y
        · have HY : Hid (hasB L p = true) := hyes.out (in_iff.2 ⟨c1, c2⟩)
          go_wp2
          go_ret
          exact ⟨by rw [HY.out]; rfl, Below.refl _ _⟩
        · have hN : Hid (hasB (L.take (k + 1)) p = false) := by rw [Hid, hsn.out]; simp [inB, c2]
          have c2' : decide (p ≤ y) = false := decide_eq_false c2
          clear c2
          go_wp2
          refine ⟨⟨k + 1, by omega, by go_num, hN.out, trivial⟩, by simp [intOf]; omega⟩
      · have hN : Hid (hasB (L.take (k + 1)) p = false) := by rw [Hid, hsn.out]; simp [inB, c1]
        have c1' : decide (x ≤ p) = false := decide_eq_false c1
        clear c1
        go_wp2
        refine ⟨⟨k + 1, by omega, by go_num, hN.out, trivial⟩, by simp [intOf]; omega⟩
    · have hkk : k = L.length := by omega
      subst hkk
      have HN : Hid (hasB L p = false) := by have := hP.out; rwa [List.take_length] at this
      go_wp2
      go_ret
      exact ⟨by rw [HN.out]; rfl, Below.refl _ _⟩
end Go.Proofs.Ytddoanmhikldiaa
