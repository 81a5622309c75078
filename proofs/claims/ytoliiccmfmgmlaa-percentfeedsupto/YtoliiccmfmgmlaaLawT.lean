/-
  The walk of the law PercentTwo: it returns true and turns nothing that was there. Conditions: each list has at most about a million texts, and they have together at most about a million bytes.
-/
import Derived.Test.YtoliiccmfmgmlaaFd
import Derived.Test.YtoliiccmfmgmlaaRdd
namespace Go.Proofs.Ytoliiccmfmgmlaa
open Go.RowKit
/-- A slice that reads as these texts. -/
def StrsA (w : World) (v : Value) (ss : List ByteArray) : Prop :=
  ∃ a c, v = .slice a ss.length c ∧ (0 < ss.length → ∃ g off, a = some ⟨g, off, none⟩ ∧ g < w.heap.size ∧ ∀ j, j < ss.length → w.cell? ⟨g, off + j, none⟩ = some (.string (ss.getD j ⟨#[]⟩)))
theorem StrsA.below {w w' : World} {v : Value} {ss : List ByteArray} (h : StrsA w v ss) (hb : Below w.heap.size w w') : StrsA w' v ss := by
  obtain ⟨a, c, e, h⟩ := h
  refine ⟨a, c, e, fun h0 => ?_⟩
  obtain ⟨g, off, e2, hg, hc⟩ := h h0
  exact ⟨g, off, e2, Nat.lt_of_lt_of_le hg hb.size, fun j hj => (hb.cell (p := ⟨g, off + j, none⟩) hg).trans (hc j hj)⟩
/-- Texts, one behind the other; how long they are together. -/
def cat (ss : List ByteArray) : ByteArray := ss.foldl (· ++ ·) ⟨#[]⟩
def tot (ss : List ByteArray) : Nat := (ss.map ByteArray.size).sum
theorem cat_snoc (ss : List ByteArray) (p : ByteArray) : cat (ss ++ [p]) = cat ss ++ p := by simp [cat]
theorem fold_size : ∀ (ss : List ByteArray) (a : ByteArray), (ss.foldl (· ++ ·) a).size = a.size + tot ss
  | [], a => by simp [tot]
  | p :: ss, a => by
    rw [List.foldl_cons, fold_size ss (a ++ p)]
    simp [tot]; omega
theorem cat_size (ss : List ByteArray) : (cat ss).size = tot ss := by
  rw [cat, fold_size]
  show 0 + _ = _
  omega
theorem tot_take (ss : List ByteArray) (k : Nat) : tot (ss.take k) ≤ tot ss := by
  have : tot (ss.take k) + tot (ss.drop k) = tot ss := by
    unfold tot
    rw [← List.sum_append, ← List.map_append, List.take_append_drop]
  omega
theorem tot_at (ss : List ByteArray) (k : Nat) (h : k < ss.length) : (ss.getD k ⟨#[]⟩).size + tot (ss.take k) ≤ tot ss := by
  have e : ss.take (k + 1) = ss.take k ++ [ss.getD k ⟨#[]⟩] := by
    rw [List.take_succ_eq_append_getElem h]; simp [List.getD, List.getElem?_eq_getElem h]
  have := tot_take ss (k + 1)
  rw [e] at this
  simp [tot] at this ⊢
  omega
theorem cat_next (ss : List ByteArray) (k : Nat) (h : k < ss.length) : cat (ss.take (k + 1)) = cat (ss.take k) ++ ss.getD k ⟨#[]⟩ := by
  rw [List.take_succ_eq_append_getElem h, cat_snoc]; simp [List.getD, List.getElem?_eq_getElem h]
theorem cat_same (ss : List ByteArray) (k : Nat) (h : ¬ k < ss.length) : ss.take (k + 1) = ss.take k := by
  rw [List.take_of_length_le (by omega), List.take_of_length_le (by omega)]
/-- One list's state behind k texts: all of it, what came out, what is held in block b. -/
def FedIn (ss : List ByteArray) (k b : Nat) (p x : Value) (wr : World) : Prop :=
  p = .string (cat (ss.take k)) ∧ x = .string (decB (su (cat (ss.take k)))) ∧ DecAt wr b (hd (cat (ss.take k)))
/-- A piece more. -/
theorem fed_next (ss : List ByteArray) (k b : Nat) (w1 : World) (h : k < ss.length) (d : DecAt w1 b (hd (hd (cat (ss.take k)) ++ ss.getD k ⟨#[]⟩))) :
    FedIn ss (k + 1) b (.string (cat (ss.take k) ++ ss.getD k ⟨#[]⟩)) (.string (decB (su (cat (ss.take k))) ++ decB (su (hd (cat (ss.take k)) ++ ss.getD k ⟨#[]⟩)))) w1 := by
  refine ⟨by rw [cat_next ss k h], by rw [cat_next ss k h, out_next (cat (ss.take k)) (ss.getD k ⟨#[]⟩)], ?_⟩
  rw [cat_next ss k h, next_hd (cat (ss.take k)) (ss.getD k ⟨#[]⟩)]
  exact d
theorem fed_stays (ss : List ByteArray) (k b : Nat) (p x : Value) (wr w1 : World) (h : ¬ k < ss.length) (f : FedIn ss k b p x wr) (e : w1.heap[b]? = wr.heap[b]?) : FedIn ss (k + 1) b p x w1 := by
  unfold FedIn at f ⊢
  rw [cat_same ss k h]
  exact ⟨f.1, f.2.1, e.trans f.2.2⟩
theorem fed_moves (ss : List ByteArray) (k b : Nat) (p x : Value) (wr w1 : World) (f : FedIn ss k b p x wr) (e : w1.heap[b]? = wr.heap[b]?) : FedIn ss k b p x w1 := ⟨f.1, f.2.1, e.trans f.2.2⟩
theorem fed_sizes (ss : List ByteArray) (k : Nat) (h : k < ss.length) (ht : tot ss ≤ 1048576) : (cat (ss.take k)).size ≤ 1048576 ∧ (ss.getD k ⟨#[]⟩).size ≤ 1048576 ∧ (decB (su (cat (ss.take k)))).size ≤ 1048576 ∧ (hd (cat (ss.take k)) ++ ss.getD k ⟨#[]⟩).size ≤ 1048578 ∧ (decB (su (hd (cat (ss.take k)) ++ ss.getD k ⟨#[]⟩))).size ≤ 1048578 := by
  have h1 := tot_at ss k h
  have h2 := cat_size (ss.take k)
  have h3 := decB_le (su (cat (ss.take k)))
  have h4 := su_size (cat (ss.take k))
  have h5 := hd_size (cat (ss.take k))
  have h6 := unsN_two (cat (ss.take k)).size (byt (cat (ss.take k)) ((cat (ss.take k)).size - 1)) (byt (cat (ss.take k)) ((cat (ss.take k)).size - 2))
  rw [← uns_is] at h6
  have h7 : (hd (cat (ss.take k)) ++ ss.getD k ⟨#[]⟩).size = (hd (cat (ss.take k))).size + (ss.getD k ⟨#[]⟩).size := by simp
  have h8 := decB_le (su (hd (cat (ss.take k)) ++ ss.getD k ⟨#[]⟩))
  have h9 := su_size (hd (cat (ss.take k)) ++ ss.getD k ⟨#[]⟩)
  refine ⟨by omega, by omega, by omega, by omega, by omega⟩
set_option maxRecDepth 100000 in
set_option maxHeartbeats 4000000 in
theorem lawT (one two : List ByteArray) (v1 v2 : Value) (w : World) (h1 : StrsA w v1 one) (h2 : StrsA w v2 two) (n1 : one.length ≤ 1048576) (n2 : two.length ≤ 1048576) (t1 : tot one ≤ 1048576) (t2 : tot two ≤ 1048576) :
    Calls Try.prog 6 #[v1, v2] w fun e w' => e = .returned (.bool true) ∧ Below w.heap.size w w' := by
  obtain ⟨a1, c1, rfl, r1⟩ := h1
  obtain ⟨a2, c2, rfl, r2⟩ := h2
  have H1 : Hid (StrsA w (.slice a1 one.length c1) one) := ⟨a1, c1, rfl, r1⟩
  have H2 : Hid (StrsA w (.slice a2 two.length c2) two) := ⟨a2, c2, rfl, r2⟩
  clear r1 r2
  go_enter Try.func6, Try.ntmps6
  go_wp2_with (first | (go_at_call 19; refine (newDecoder_any _).mono ?_; rintro e w' ⟨rfl, rfl⟩) | (go_at_call 9; refine (awake_any _).mono ?_))
  rintro e w1 ⟨rfl, b1⟩
  have z1 := b1.size
  simp only [World.size_alloc] at z1
  have B1 : Below w.heap.size w w1 := (((Below.refl _ w).alloc (Nat.le_refl _) _).alloc (by simp) _).trans (b1.mono (by simp; omega))
  have d1 : DecAt w1 w.heap.size ⟨#[]⟩ := (b1.block _ (by simp; omega)).trans ((Below.heap_alloc _ _ _ (by simp)).trans (World.alloc_heap_new _ _))
  have d2 : DecAt w1 (w.heap.size + 1) ⟨#[]⟩ := by
    have := World.alloc_heap_new (w.alloc (.cells #[.string ⟨#[]⟩] 71)) (.cells #[.string ⟨#[]⟩] 71)
    rw [World.size_alloc] at this
    exact (b1.block _ (by simp)).trans this
  have H0 : Hid (FedIn one 0 w.heap.size (.string ⟨#[]⟩) (.string ⟨#[]⟩) w1 ∧ FedIn two 0 (w.heap.size + 1) (.string ⟨#[]⟩) (.string ⟨#[]⟩) w1 ∧ Below w.heap.size w w1) := ⟨⟨rfl, rfl, d1⟩, ⟨rfl, rfl, d2⟩, B1⟩
  clear b1 d1 d2 B1
  go_wp2
  go_loopw [7, 8, 9, 10, 11] (fun p q x y i wr => ∃ k : Nat, i = .int .i64 k ∧ (k ≤ one.length ∨ k ≤ two.length) ∧ Hid (FedIn one k w.heap.size p x wr ∧ FedIn two k (w.heap.size + 1) q y wr ∧ Below w.heap.size w wr)) (fun _ _ _ _ i _ => one.length + two.length - (intOf i).toNat)
  case atStart => exact ⟨0, rfl, .inl (Nat.zero_le _), H0⟩
  case round =>
    clear H0
    obtain ⟨k, rfl, hk, HI⟩ := hrel
    obtain ⟨⟨rfl, rfl, d1⟩, ⟨rfl, rfl, d2⟩, hB⟩ := HI.out
    clear HI
    have below_grown : ∀ {wa wb : World} {b : Nat}, w.heap.size ≤ b → Below w.heap.size w wa → wa.grownBy wb (some b) → Below w.heap.size w wb := fun hb hB hg => hB.trans ⟨hg.os, hg.tape, hg.output, hg.size, fun j hj => hg.block j (Nat.lt_of_lt_of_le hj hB.size) (by simp; omega)⟩
    have HBG : Hid _ := @below_grown
    clear below_grown
    have hwz := hB.size
    have HB : Hid (Below w.heap.size w wr) := hB
    have HD : Hid (DecAt wr w.heap.size (hd (cat (one.take k))) ∧ DecAt wr (w.heap.size + 1) (hd (cat (two.take k)))) := ⟨d1, d2⟩
    -- the first list's step, in any world
    have S1 : Hid (k < one.length → ∃ (g o : Nat) (P X Y C H : ByteArray), a1 = some ⟨g, o, none⟩ ∧ cat (one.take k) = C ∧ decB (su (cat (one.take k))) = X ∧ P.size ≤ 1048576 ∧ X.size ≤ 1048576 ∧ Y.size ≤ 1048578 ∧ C.size ≤ 1048576 ∧
        (∀ wa, Below w.heap.size w wa → wa.cell? ⟨g, o + k, none⟩ = some (.string P)) ∧
        (∀ wa, DecAt wa w.heap.size (hd (cat (one.take k))) → Calls Try.prog 20 #[.pointer (some ⟨w.heap.size, 0, none⟩), .string P] wa fun e w' => e = .returned (.string Y) ∧ DecAt w' w.heap.size H ∧ wa.grownBy w' (some w.heap.size)) ∧
        (∀ wa, DecAt wa w.heap.size H → FedIn one (k + 1) w.heap.size (.string (C ++ P)) (.string (X ++ Y)) wa)) := fun l => by
      obtain ⟨s1, s2, s3, s4, s5⟩ := fed_sizes one k l t1
      obtain ⟨a, c, e, h⟩ := H1.out
      cases e
      obtain ⟨g, off, e2, hg, hc⟩ := h (by omega)
      exact ⟨g, off, _, _, _, _, _, e2, rfl, rfl, s2, s3, s5, s1, fun wa hb => (hb.cell (p := ⟨g, off + k, none⟩) hg).trans (hc k l), fun wa d => feed_any _ _ _ wa (by omega) d, fun wa d => fed_next one k w.heap.size wa l d⟩
    have S2 : Hid (k < two.length → ∃ (g o : Nat) (P X Y C H : ByteArray), a2 = some ⟨g, o, none⟩ ∧ cat (two.take k) = C ∧ decB (su (cat (two.take k))) = X ∧ P.size ≤ 1048576 ∧ X.size ≤ 1048576 ∧ Y.size ≤ 1048578 ∧ C.size ≤ 1048576 ∧
        (∀ wa, Below w.heap.size w wa → wa.cell? ⟨g, o + k, none⟩ = some (.string P)) ∧
        (∀ wa, DecAt wa (w.heap.size + 1) (hd (cat (two.take k))) → Calls Try.prog 20 #[.pointer (some ⟨w.heap.size + 1, 0, none⟩), .string P] wa fun e w' => e = .returned (.string Y) ∧ DecAt w' (w.heap.size + 1) H ∧ wa.grownBy w' (some (w.heap.size + 1))) ∧
        (∀ wa, DecAt wa (w.heap.size + 1) H → FedIn two (k + 1) (w.heap.size + 1) (.string (C ++ P)) (.string (X ++ Y)) wa)) := fun l => by
      obtain ⟨s1, s2, s3, s4, s5⟩ := fed_sizes two k l t2
      obtain ⟨a, c, e, h⟩ := H2.out
      cases e
      obtain ⟨g, off, e2, hg, hc⟩ := h (by omega)
      exact ⟨g, off, _, _, _, _, _, e2, rfl, rfl, s2, s3, s5, s1, fun wa hb => (hb.cell (p := ⟨g, off + k, none⟩) hg).trans (hc k l), fun wa d => feed_any _ _ _ wa (by omega) d, fun wa d => fed_next two k (w.heap.size + 1) wa l d⟩
    have N1 : Hid (¬ k < one.length → ∀ wa, DecAt wa w.heap.size (hd (cat (one.take k))) → FedIn one (k + 1) w.heap.size (.string (cat (one.take k))) (.string (decB (su (cat (one.take k))))) wa) := fun l wa d => fed_stays one k _ _ _ wa wa l ⟨rfl, rfl, d⟩ rfl
    have N2 : Hid (¬ k < two.length → ∀ wa, DecAt wa (w.heap.size + 1) (hd (cat (two.take k))) → FedIn two (k + 1) (w.heap.size + 1) (.string (cat (two.take k))) (.string (decB (su (cat (two.take k))))) wa) := fun l wa d => fed_stays two k _ _ _ wa wa l ⟨rfl, rfl, d⟩ rfl
    clear d1 d2 hB
    by_cases l1 : k < one.length
    · have l1i : (k : Int) < (one.length : Int) := by omega
      have e1 : decide ((k : Int) < (one.length : Int)) = true := decide_eq_true l1i
      obtain ⟨g1, o1, P1, X1, Y1, C1, K1, rfl, eC1, eX1, p1, p2, p3, p4, cl1, fd1, nx1⟩ := S1.out l1
      rw [eX1, eC1]
      have hk1 := cl1 wr HB.out
      have f1 := fd1 wr HD.out.1
      have q1 : ¬ 9223372036854775807 < C1.size + P1.size := by omega
      have q2 : ¬ 9223372036854775807 < X1.size + Y1.size := by omega
      have NX1 : Hid _ := nx1
      clear S1 N1 cl1 fd1 nx1 eC1 eX1
      by_cases l2 : k < two.length
      · have l2i : (k : Int) < (two.length : Int) := by omega
        have e2 : decide ((k : Int) < (two.length : Int)) = true := decide_eq_true l2i
        obtain ⟨g2, o2, P2, X2, Y2, C2, K2, rfl, eC2, eX2, r1, r2, r3, r4, cl2, fd2, nx2⟩ := S2.out l2
        rw [eX2, eC2]
        have q3 : ¬ 9223372036854775807 < C2.size + P2.size := by omega
        have q4 : ¬ 9223372036854775807 < X2.size + Y2.size := by omega
        have CL2 : Hid _ := cl2
        have FD2 : Hid _ := fd2
        have NX2 : Hid _ := nx2
        clear S2 N2 cl2 fd2 nx2 eC2 eX2
        go_wp2_with (go_at_call 20; refine f1.mono ?_)
        first | rintro e w1 rfl da gr | rintro e w1 ⟨rfl, da, gr⟩
        have hb1 := HBG.out (Nat.le_refl _) HB.out gr
        have db : DecAt w1 (w.heap.size + 1) (hd (cat (two.take k))) := (gr.block _ HD.out.2.lt (by simp)).trans HD.out.2
        have hk2 := CL2.out w1 hb1
        have f2 := FD2.out w1 db
        have HB1 : Hid (Below w.heap.size w w1) := hb1
        have DA : Hid (DecAt w1 w.heap.size K1) := da
        clear CL2 FD2 hb1 da db gr f1
        go_wp2_with (go_at_call 20; refine f2.mono ?_)
        first | rintro e w2 rfl db gr | rintro e w2 ⟨rfl, db, gr⟩
        have hb2 := HBG.out (by omega) HB1.out gr
        have da : DecAt w2 w.heap.size K1 := (gr.block _ DA.out.lt (by simp)).trans DA.out
        have HF : Hid (FedIn one (k + 1) w.heap.size (.string (C1 ++ P1)) (.string (X1 ++ Y1)) w2 ∧ FedIn two (k + 1) (w.heap.size + 1) (.string (C2 ++ P2)) (.string (X2 ++ Y2)) w2 ∧ Below w.heap.size w w2) := ⟨NX1.out w2 da, NX2.out w2 db, hb2⟩
        clear NX1 NX2 da db hb2 gr f2
        go_wp2
        exact ⟨⟨k + 1, by go_num, by omega, HF⟩, by simp [intOf]; omega⟩
      · have l2i : ¬ (k : Int) < (two.length : Int) := by omega
        have e2 : decide ((k : Int) < (two.length : Int)) = false := decide_eq_false l2i
        go_wp2_with (go_at_call 20; refine f1.mono ?_)
        first | rintro e w1 rfl da gr | rintro e w1 ⟨rfl, da, gr⟩
        have hb1 := HBG.out (Nat.le_refl _) HB.out gr
        have db : DecAt w1 (w.heap.size + 1) (hd (cat (two.take k))) := (gr.block _ HD.out.2.lt (by simp)).trans HD.out.2
        have HF : Hid (FedIn one (k + 1) w.heap.size (.string (C1 ++ P1)) (.string (X1 ++ Y1)) w1 ∧ FedIn two (k + 1) (w.heap.size + 1) (.string (cat (two.take k))) (.string (decB (su (cat (two.take k))))) w1 ∧ Below w.heap.size w w1) := ⟨NX1.out w1 da, N2.out l2 w1 db, hb1⟩
        clear NX1 da db hb1 gr f1 S2 N2
        go_wp2
        exact ⟨⟨k + 1, by go_num, by omega, HF⟩, by simp [intOf]; omega⟩
    · have l1i : ¬ (k : Int) < (one.length : Int) := by omega
      have e1 : decide ((k : Int) < (one.length : Int)) = false := decide_eq_false l1i
      by_cases l2 : k < two.length
      · have l2i : (k : Int) < (two.length : Int) := by omega
        have e2 : decide ((k : Int) < (two.length : Int)) = true := decide_eq_true l2i
        obtain ⟨g2, o2, P2, X2, Y2, C2, K2, rfl, eC2, eX2, r1, r2, r3, r4, cl2, fd2, nx2⟩ := S2.out l2
        rw [eX2, eC2]
        have q3 : ¬ 9223372036854775807 < C2.size + P2.size := by omega
        have q4 : ¬ 9223372036854775807 < X2.size + Y2.size := by omega
        have hk2 := cl2 wr HB.out
        have f2 := fd2 wr HD.out.2
        have NX2 : Hid _ := nx2
        clear S1 S2 N2 cl2 fd2 nx2 eC2 eX2
        go_wp2_with (go_at_call 20; refine f2.mono ?_)
        first | rintro e w2 rfl db gr | rintro e w2 ⟨rfl, db, gr⟩
        have hb2 := HBG.out (by omega) HB.out gr
        have da : DecAt w2 w.heap.size (hd (cat (one.take k))) := (gr.block _ HD.out.1.lt (by simp)).trans HD.out.1
        have HF : Hid (FedIn one (k + 1) w.heap.size (.string (cat (one.take k))) (.string (decB (su (cat (one.take k))))) w2 ∧ FedIn two (k + 1) (w.heap.size + 1) (.string (C2 ++ P2)) (.string (X2 ++ Y2)) w2 ∧ Below w.heap.size w w2) := ⟨N1.out l1 w2 da, NX2.out w2 db, hb2⟩
        clear NX2 da db hb2 gr f2 N1
        go_wp2
        exact ⟨⟨k + 1, by go_num, by omega, HF⟩, by simp [intOf]; omega⟩
      · have l2i : ¬ (k : Int) < (two.length : Int) := by omega
        have e2 : decide ((k : Int) < (two.length : Int)) = false := decide_eq_false l2i
        clear S1 S2 N1 N2
        have x1 : one.take k = one := List.take_of_length_le (by omega)
        have x2 : two.take k = two := List.take_of_length_le (by omega)
        rw [x1, x2] at HD ⊢
        have oa1 := out_all (cat one)
        have oa2 := out_all (cat two)
        have c1s := cat_size one
        have c2s := cat_size two
        have m1 := decB_le (cat one)
        have m2 := decB_le (cat two)
        have a1s : (decB (su (cat one)) ++ hd (cat one)).size = (decB (su (cat one))).size + (hd (cat one)).size := by simp
        have a2s : (decB (su (cat two)) ++ hd (cat two)).size = (decB (su (cat two))).size + (hd (cat two)).size := by simp
        rw [oa1] at a1s; rw [oa2] at a2s
        have k1 := fun wa => rdecode_any (cat one) wa (by omega)
        have k2 := fun wa => rdecode_any (cat two) wa (by omega)
        have q1 : ¬ 9223372036854775807 < (decB (su (cat one))).size + (hd (cat one)).size := by omega
        have q2 : ¬ 9223372036854775807 < (decB (su (cat two))).size + (hd (cat two)).size := by omega
        obtain ⟨C1, eC1⟩ : ∃ C, cat one = C := ⟨_, rfl⟩
        obtain ⟨C2, eC2⟩ : ∃ C, cat two = C := ⟨_, rfl⟩
        rw [eC1] at HD oa1 k1 q1 ⊢; rw [eC2] at HD oa2 k2 q2 ⊢
        obtain ⟨X1, eX1⟩ : ∃ X, decB (su C1) = X := ⟨_, rfl⟩
        obtain ⟨X2, eX2⟩ : ∃ X, decB (su C2) = X := ⟨_, rfl⟩
        obtain ⟨T1, eT1⟩ : ∃ X, hd C1 = X := ⟨_, rfl⟩
        obtain ⟨T2, eT2⟩ : ∃ X, hd C2 = X := ⟨_, rfl⟩
        obtain ⟨M1, eM1⟩ : ∃ X, decB C1 = X := ⟨_, rfl⟩
        obtain ⟨M2, eM2⟩ : ∃ X, decB C2 = X := ⟨_, rfl⟩
        rw [eX1] at oa1 q1 ⊢; rw [eX2] at oa2 q2 ⊢; rw [eT1] at HD oa1 q1; rw [eT2] at HD oa2 q2; rw [eM1] at oa1 k1; rw [eM2] at oa2 k2
        clear eC1 eC2 eX1 eX2 eT1 eT2 eM1 eM2 a1s a2s c1s c2s m1 m2 x1 x2 HBG hk
        go_wp2_with (go_at_call 7; refine (k1 _).mono ?_)
        first | rintro e w1 va rfl _ b1 | rintro e w1 ⟨va, rfl, _, b1⟩
        have h1 : Hid (DecAt w1 w.heap.size T1 ∧ DecAt w1 (w.heap.size + 1) T2 ∧ Below w.heap.size w w1) := ⟨HD.out.1.below b1, HD.out.2.below b1, HB.out.trans (b1.mono HB.out.size)⟩
        clear b1 HD k1
        go_wp2_with (go_at_call 7; refine (k2 _).mono ?_)
        first | rintro e w2 vb rfl _ b2 | rintro e w2 ⟨vb, rfl, _, b2⟩
        have h2 : Hid (DecAt w2 (w.heap.size + 1) T2 ∧ Below w.heap.size w w2) := ⟨h1.out.2.1.below b2, h1.out.2.2.trans (b2.mono h1.out.2.2.size)⟩
        have ke := end_any w.heap.size T1 w2 (h1.out.1.below b2)
        clear b2 k2 h1
        go_wp2_with (go_at_call 21; refine ke.mono ?_)
        first | rintro e w3 rfl _ gr | rintro e w3 ⟨rfl, _, gr⟩
        have ke2 := end_any (w.heap.size + 1) T2 w3 ((gr.block _ h2.out.1.lt (by simp)).trans h2.out.1)
        have h3 : Hid (Below w.heap.size w w3) := h2.out.2.trans ⟨gr.os, gr.tape, gr.output, gr.size, fun j hj => gr.block j (Nat.lt_of_lt_of_le hj h2.out.2.size) (by simp; omega)⟩
        clear gr h2 ke
        go_wp2_with (go_at_call 21; refine ke2.mono ?_)
        first | rintro e w4 rfl _ gr | rintro e w4 ⟨rfl, _, gr⟩
        have h4 : Hid (Below w.heap.size w w4) := h3.out.trans ⟨gr.os, gr.tape, gr.output, gr.size, fun j hj => gr.block j (Nat.lt_of_lt_of_le hj h3.out.size) (by simp; omega)⟩
        clear gr h3 ke2
        go_wp2
        go_ret
        exact ⟨rfl, h4.out⟩
end Go.Proofs.Ytoliiccmfmgmlaa
