/-
  What the statement of the sum's order asks, walked: the list turned about. Conditions: the floats' bits fit; the list is not too long.
-/
import Derived.Test.YtdhfkdopcphjlaaEx2
import Derived.Test.YtdhfkdopcphjlaaCt
import Derived.OwnWalk
import Derived.Maps.AppendAt
import Derived.Deep.DeepMust
namespace Go.Proofs.Ytdhfkdopcphjlaa
open Go.RowKit
theorem owns_slice {W : World} {b e size n : Nat} {v : Value} {xs : List Value} (h : W.ownsRow b e size v n xs) : ∃ a c, v = .slice a n c ∧ (0 < n → ∃ g, a = some ⟨g, 0, none⟩) := by
  obtain ⟨_, ⟨rfl, h0⟩ | ⟨g, cap, cur, rfl, _⟩⟩ := h
  · exact ⟨none, 0, by rw [h0], fun h => by omega⟩
  · exact ⟨_, _, rfl, fun _ => ⟨g, rfl⟩⟩
theorem owns_cell {W : World} {b e size n : Nat} {v : Value} {xs : List Value} (h : W.ownsRow b e size v n xs) {g cap : Nat} (hv : v = .slice (some ⟨g, 0, none⟩) n cap) (i : Nat) (u : Value) (hi : xs[i]? = some u) : W.cell? ⟨g, i, none⟩ = some u := by
  obtain ⟨h1, ⟨h2, _⟩ | ⟨g', cap', cur, rfl, h3, h4, h5, h6, h7, h8⟩⟩ := h
  · rw [h2] at hv; cases hv
  · cases hv
    have hl : i < n * size := by rw [← h1]; exact (List.getElem?_eq_some_iff.1 hi).1
    rw [← h8, List.getElem?_take_of_lt hl, Array.getElem?_toList] at hi
    simp [World.cell?, h4, hi]
theorem owns_below {W W' : World} {b e size n : Nat} {v : Value} {xs : List Value} (h : W.ownsRow b e size v n xs) (hb : Below W.heap.size W W') : W'.ownsRow b e size v n xs := by
  obtain ⟨h1, h2 | ⟨g, cap, cur, rfl, h3, h4, h5⟩⟩ := h
  · exact ⟨h1, .inl h2⟩
  · exact ⟨h1, .inr ⟨g, cap, cur, rfl, h3, (hb.block g (Array.getElem?_eq_some_iff.1 h4).1).trans h4, h5⟩⟩
theorem Rd.of_owns {w : World} {b e : Nat} {v : Value} {cs : List Value} (h : w.ownsRow b e 1 v cs.length cs) : Rd w v cs := by
  obtain ⟨a, c, rfl, hn⟩ := owns_slice h
  refine ⟨a, c, rfl, fun hp => ?_⟩
  obtain ⟨g, rfl⟩ := hn hp
  refine ⟨g, 0, rfl, fun j hj => ?_⟩
  rw [Nat.zero_add]
  exact owns_cell h rfl j _ (by simp [List.getD, List.getElem?_eq_getElem hj])
noncomputable def body6 : Code := Try.f6.body.getD .skip
theorem info25 : (Try.prog.info? 25).map (fun i => (i.zero, i.size, i.bytes)) = some (some (.float .f64 0), 1, 8) := by kernel_rfl
theorem own_none (W : World) (b : Nat) (hb : b ≤ W.heap.size) : (W.alloc (.cells #[] 25)).ownsRow b 25 1 (.slice (some ⟨W.heap.size, 0, none⟩) 0 0) 0 [] :=
  ⟨rfl, .inr ⟨W.heap.size, 0, #[], rfl, hb, heap_alloc_last _ _, Nat.le_refl _, Nat.zero_le _, by simp, rfl⟩⟩
theorem rev_step (bs : List Nat) (k : Nat) (h : k < bs.length) : (bs.drop k).reverse = (bs.drop (k + 1)).reverse ++ [bs.getD k 0] := by
  rw [List.drop_eq_getElem_cons h, List.reverse_cons]
  simp [List.getD, List.getElem?_eq_getElem h]
set_option maxRecDepth 100000 in
set_option maxHeartbeats 1000000 in
theorem or_0 {Q : Ending → World → Prop} (bs : List Nat) (g off c0 : Nat) (at1 at0 : Nat) (w : World) (h1 : 1 ≤ bs.length) (h2 : bs.length ≤ 1000) (hat : ((at1 : Int)).tmod (bs.length : Int) = (at0 : Int)) (hd : ∀ j, j < bs.length → w.cell? ⟨g, off + j, none⟩ = some ((flt bs).getD j undef))
    (hK : Hid (∀ a w1 vb, Below w.heap.size w w1 → w1.ownsRow w.heap.size 25 1 vb bs.length (flt bs.reverse) → At 109 [(0, .slice (some ⟨g, off, none⟩) bs.length c0), (1, .int .i64 (at0 : Nat)), (5, vb)] a → Code.wp Try.prog (sq 5 body6) (bodyPost Try.prog Try.f6 Q) a w1)) : Calls Try.prog 6 #[.slice (some ⟨g, off, none⟩) bs.length c0, .int .i64 (at1 : Nat)] w Q := by
  obtain ⟨i0, hi, hz0, hz1, hz2⟩ := info_parts info25
  have l1 : ¬ (bs.length : Int) < 1 := by omega
  have l2 : (bs.length : Int) ≤ 1000 := by omega
  have l3 : (bs.length : Int) ≠ 0 := by omega
  have HD : Hid (∀ j, j < bs.length → w.cell? ⟨g, off + j, none⟩ = some ((flt bs).getD j undef)) := hd
  clear hd
  go_enter Try.func6, Try.ntmps6
  change Code.wp _ (Code.seq (hd (sq 0 body6)) (Code.seq (hd (sq 1 body6)) (Code.seq (hd (sq 2 body6)) (Code.seq (hd (sq 3 body6)) (Code.seq (hd (sq 4 body6)) (sq 5 body6)))))) _ _ _
  generalize sq 5 body6 = REST at hK ⊢
  conv => arg 2; arg 1; whnf
  conv => arg 2; arg 2; arg 1; whnf
  conv => arg 2; arg 2; arg 2; arg 1; whnf
  conv => arg 2; arg 2; arg 2; arg 2; arg 1; whnf
  conv => arg 2; arg 2; arg 2; arg 2; arg 2; arg 1; whnf
  go_wp2_with fail
  go_loopw [5, 6] (fun v x wr => ∃ k : Nat, k ≤ bs.length ∧ x = .int .i64 ((k : Int) - 1) ∧ Hid (wr.ownsRow w.heap.size 25 1 v (bs.length - k) (flt (bs.drop k).reverse)) ∧ Hid (Below w.heap.size w wr)) (fun _ x _ => (intOf x + 1).toNat)
  case atStart => exact ⟨bs.length, Nat.le_refl _, rfl, by rw [Nat.sub_self, List.drop_length]; exact own_none w _ (Nat.le_refl _), (Below.refl _ _).alloc (Nat.le_refl _) _⟩
  case round =>
    obtain ⟨k, hk, rfl, hO, hB⟩ := hrel
    cases k with
    | zero =>
      have hO2 : Hid (wr.ownsRow w.heap.size 25 1 u5 bs.length (flt bs.reverse)) := hO.out
      go_wp2
      exact hK.out _ _ _ hB.out hO2.out ⟨rfl, rfl, rfl, rfl, rfl, trivial⟩
    | succ k =>
      have hkl : k < bs.length := by omega
      have hx : ((k + 1 : Nat) : Int) - 1 = (k : Int) := by omega
      rw [hx]
      have kl : (k : Int) < (bs.length : Int) := by omega
      have hc := HD.out k hkl
      rw [flt_get bs k hkl] at hc
      have hc2 : wr.cell? ⟨g, off + k, none⟩ = some (.float .f64 (bs.getD k 0)) := (hB.out.cell (p := ⟨g, off + k, none⟩) (by simpa using World.block_lt_of_cell? w _ hc)).trans hc
      have HR : Hid ((bs.drop k).reverse = (bs.drop (k + 1)).reverse ++ [bs.getD k 0]) := rev_step bs k hkl
      have hbs := hB.out.size
      clear hc hx
      generalize bs.getD k 0 = b at *
      have hcn := cell_one_new wr (.float .f64 b) 25
      go_wp2_with (at_builtin; go_must (refine wpList_append_own _ rfl _ _ 22 rfl w.heap.size 25 i0 (.float .f64 0) 1 8 Try.underlying22 hi hz0 hz1 hz2 rfl (by decide) _ _ _ rfl (hO.out.alloc _) ⟨_, 0, none⟩ 1 1 [.float .f64 b] rfl rfl hcn (by simp [Value.oneCell']) (by unfold maxLen; omega) (by omega) (by simp; omega) ?_))
      intro v' w1 hown' hgrow _
      have B1 : Hid (Below w.heap.size w w1) := (hB.out.alloc hbs _).grown hgrow (by simp; omega) (fun j hj => (hO.out.lt j hj).1)
      have O1 : Hid (w1.ownsRow w.heap.size 25 1 v' (bs.length - (k + 1) + 1) (flt (bs.drop (k + 1)).reverse ++ [.float .f64 b])) := hown'
      clear hgrow hown' hcn
      go_wp2
      refine ⟨⟨k, by omega, by go_num, ?_, B1.out⟩, by simp [intOf]⟩
      rw [HR.out, show bs.length - k = bs.length - (k + 1) + 1 by omega]
      have e : flt ((bs.drop (k + 1)).reverse ++ [b]) = flt (bs.drop (k + 1)).reverse ++ [.float .f64 b] := by simp [flt]
      rw [e]
      exact O1.out
end Go.Proofs.Ytdhfkdopcphjlaa
