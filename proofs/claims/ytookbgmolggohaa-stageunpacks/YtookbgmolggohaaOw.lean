/-
  The contract of the document's cut: a stretch, cut by the later rows. Conditions: the rows rise; the list is no longer than 4000000.
-/
import Derived.Test.YtookbgmolggohaaOv
import Derived.Test.YtookbgmolggohaaLe
namespace Go.Proofs.Ytookbgmolggohaa
open Go.RowKit
theorem cut_len (n t : Int) : ∀ (Y : List Rw) (s : List Rw × Int), (Y.foldl (cutS n t) s).1.length ≤ s.1.length + 2 * Y.length
  | [], s => by simp
  | y :: Y, s => by
    rw [List.foldl_cons]
    have h1 := cut_len n t Y (cutS n t s y)
    have h2 : (cutS n t s y).1.length ≤ s.1.length + 2 := by
      unfold cutS
      split
      · omega
      · simp only [List.length_append, List.length_cons, List.length_nil]
        split <;> simp
    rw [List.length_cons]
    omega
theorem fold_step {α : Type} (g : α → Rw → α) (s : α) {Y : List Rw} {k : Nat} (h : k < Y.length) : (Y.take (k + 1)).foldl g s = g ((Y.take k).foldl g s) (Y.getD k (0, 0, 0)) := by
  rw [List.take_add_one, List.getElem?_eq_getElem h, List.foldl_append]
  simp [List.getD, List.getElem?_eq_getElem h]
theorem cell3_kept {wr W1 : World} {x y z : Value} {base m : Nat} {u : Value} {xs : List Value} {tt : Obj} (hg : ((wr.alloc (.cells #[x, y, z] 33)).alloc tt).grownBy W1 u.ownBlock) (q1 : (wr.alloc (.cells #[x, y, z] 33)).cell? ⟨wr.heap.size, 0, none⟩ = some x) (q2 : (wr.alloc (.cells #[x, y, z] 33)).cell? ⟨wr.heap.size, 1, none⟩ = some y) (q3 : (wr.alloc (.cells #[x, y, z] 33)).cell? ⟨wr.heap.size, 2, none⟩ = some z) (hO : wr.ownsRow base 33 3 u m xs) : W1.cell? ⟨wr.heap.size, 0, none⟩ = some x ∧ W1.cell? ⟨wr.heap.size, 1, none⟩ = some y ∧ W1.cell? ⟨wr.heap.size, 2, none⟩ = some z := by
  have hblk : W1.heap[wr.heap.size]? = (wr.alloc (.cells #[x, y, z] 33)).heap[wr.heap.size]? := by
    rw [hg.block wr.heap.size (by simp; omega) (fun e => by
      obtain ⟨_, cur, h⟩ := own_in hO e.symm
      have := (Array.getElem?_eq_some_iff.1 h).1
      omega)]
    exact Below.heap_alloc _ _ _ (by simp)
  have hc : ∀ j, W1.cell? ⟨wr.heap.size, j, none⟩ = (wr.alloc (.cells #[x, y, z] 33)).cell? ⟨wr.heap.size, j, none⟩ := fun j => by
    simp only [World.cell?, hblk]
  exact ⟨(hc 0).trans q1, (hc 1).trans q2, (hc 2).trans q3⟩
set_option maxRecDepth 100000 in
set_option maxHeartbeats 4000000 in
theorem cut_any (Y : List Rw) (f t n : Int) (v : Value) (w : World) (hr : Rd3 .i64 w v Y) (hok : okF 0 Y) (hl : Y.length ≤ 4000000) (ht0 : 0 ≤ t) (ht1 : t ≤ 1114111) : Calls Try.prog 38 #[v, .int .i64 f, .int .i64 t, .int .i64 n] w fun e w' => ∃ v', e = .returned v' ∧ w'.ownsRow w.heap.size 33 3 v' (cutL Y f t n).length (cel3 .i64 (cutL Y f t n)) ∧ Below w.heap.size w w' := by
  obtain ⟨i0, hi, hz0, hz1, hz2⟩ := info_parts info33
  have HR : Hid (∀ W, Below w.heap.size w W → Rd3 .i64 W v Y) := fun W hW => hr.below hW
  have HM : Hid (∀ k, k < Y.length → 0 ≤ (Y.getD k (0, 0, 0)).1 ∧ (Y.getD k (0, 0, 0)).1 ≤ (Y.getD k (0, 0, 0)).2.1 ∧ (Y.getD k (0, 0, 0)).2.1 ≤ 1114111) := fun k hk => by
    have hm : Y.getD k (0, 0, 0) ∈ Y := by
      rw [show Y.getD k (0, 0, 0) = Y[k] by simp [List.getD, List.getElem?_eq_getElem hk]]
      exact List.getElem_mem hk
    have := okF_mem hok _ hm
    omega
  obtain ⟨av, cv, rfl, -, -⟩ := hr
  have B0 : Hid (Below w.heap.size w (w.alloc (.cells #[] 33))) := (Below.refl _ _).alloc (Nat.le_refl _) _
  have O0 : Hid ((w.alloc (.cells #[] 33)).ownsRow w.heap.size 33 3 (.slice (some ⟨w.heap.size, 0, none⟩) 0 0) 0 []) := own_none w _ 33 3 (Nat.le_refl _)
  have hl' : (Y.length : Int) ≤ 4000000 := by omega
  have HL0 : Hid (Y.length ≤ 4000000) := hl
  clear hok hl
  go_enter Try.func38, Try.ntmps38
  go_wp2_with fail
  go_loopw [1, 9, 16] (fun a x y wr => ∃ (k : Nat) (o : List Rw) (fr : Int), k ≤ Y.length ∧ y = .int .i64 (k : Nat) ∧ a = .int .i64 fr ∧ Hid ((Y.take k).foldl (cutS n t) ([], f) = (o, fr)) ∧ Hid (wr.ownsRow w.heap.size 33 3 x o.length (cel3 .i64 o)) ∧ Hid (Below w.heap.size w wr)) (fun _ _ y _ => (Y.length - (intOf y).toNat : Nat))
  case atStart => exact ⟨0, [], f, Nat.zero_le _, rfl, rfl, rfl, O0, B0⟩
  case round =>
    obtain ⟨k, o, fr, hk, rfl, rfl, hS, hO, hB⟩ := hrel
    have hbsz := hB.out.size
    have OL : Hid (o.length ≤ 2 * k) := by
      have := cut_len n t (Y.take k) ([], f)
      rw [hS.out] at this
      simp at this
      rw [Hid]
      omega
    clear O0 B0
    by_cases hkl : k < Y.length
    · obtain ⟨a2, c2, e2, -, hc⟩ := HR.out wr hB.out
      obtain ⟨rfl, rfl⟩ : av = a2 ∧ cv = c2 := by simpa using e2
      obtain ⟨g, off, rfl, hd⟩ := hc (by omega)
      obtain ⟨e1, e2', e3⟩ := hd k hkl
      have kl : (k : Int) < (Y.length : Int) := by omega
      have HL : Hid (k < 4000000) := by rw [Hid]; omega
      have hst := fold_step (cutS n t) ([], f) hkl
      rw [hS.out] at hst
      obtain ⟨m1, m2, m3⟩ := HM.out k hkl
      clear hd hc e2 hS
      generalize Y.getD k (0, 0, 0) = s at *
      obtain ⟨x, y, z⟩ := s
      simp only at e1 e2' e3 m1 m2 m3
      obtain ⟨q1, q2, q3⟩ := box3 wr (.int .i64 x) (.int .i64 y) (.int .i64 z) 33
      have B1 : Hid (Below w.heap.size w (wr.alloc (.cells #[.int .i64 x, .int .i64 y, .int .i64 z] 33))) := hB.out.alloc hbsz _
      have O1 : Hid ((wr.alloc (.cells #[.int .i64 x, .int .i64 y, .int .i64 z] 33)).ownsRow w.heap.size 33 3 u9 o.length (cel3 .i64 o)) := hO.out.alloc _
      have Q1 : Hid (∀ W, Below (wr.alloc (.cells #[.int .i64 x, .int .i64 y, .int .i64 z] 33)).heap.size (wr.alloc (.cells #[.int .i64 x, .int .i64 y, .int .i64 z] 33)) W → True) := fun _ _ => trivial
      clear Q1
      by_cases c1 : y < fr
      · have d1 : decide (y < fr) = true := decide_eq_true c1
        have hst2 : Hid ((Y.take (k + 1)).foldl (cutS n t) ([], f) = (o, fr)) := by rw [Hid, hst, cutS, if_pos (.inl c1)]
        clear hst c1
        go_wp2
        exact ⟨⟨k + 1, o, fr, by omega, by go_num, rfl, hst2, O1, B1⟩, by simp [intOf]; omega⟩
      by_cases c2 : t < x
      · have d1 : decide (y < fr) = false := decide_eq_false c1
        have d2 : decide (t < x) = true := decide_eq_true c2
        have hst2 : Hid ((Y.take (k + 1)).foldl (cutS n t) ([], f) = (o, fr)) := by rw [Hid, hst, cutS, if_pos (.inr c2)]
        clear hst c1 c2
        go_wp2
        exact ⟨⟨k + 1, o, fr, by omega, by go_num, rfl, hst2, O1, B1⟩, by simp [intOf]; omega⟩
      have d1 : decide (y < fr) = false := decide_eq_false c1
      have d2 : decide (t < x) = false := decide_eq_false c2
      rw [cutS, if_neg (by simp only; omega)] at hst
      simp only at hst
      clear c1 c2
      by_cases c3 : fr < x
      · by_cases c4 : t < y
        · skip
          have d3 : decide (fr < x) = true := decide_eq_true c3
          have d4 : decide (t < y) = true := decide_eq_true c4
          rw [if_pos c3, if_pos c3, if_pos c4] at hst
          go_wp2_with (at_builtin; refine wpList_append_own_at _ rfl _ _ 25 rfl w.heap.size 33 i0 _ 3 24 Try.underlying25 hi hz0 hz1 hz2 rfl (by decide) _ _ _ rfl (O1.out.alloc _) ⟨_, 0, none⟩ 1 1 [.int .i64 fr, .int .i64 (x - 1), .int .i64 n] rfl rfl ?p11a1 ?p11a2 ?p11a3 ?p11a4 ?p11a5 ?p11a6)
          try any_goals (first | exact cells_new _ #[.int .i64 fr, .int .i64 (x - 1), .int .i64 n] _ | (intro j u hj; have hj2 := cells_new (wr.alloc (.cells #[.int .i64 x, .int .i64 y, .int .i64 z] 33)) #[.int .i64 fr, .int .i64 (x - 1), .int .i64 n] 33 j u hj; rw [World.size_alloc] at hj2; exact hj2))
          case p11a2 => simp [Value.oneCell']
          case p11a3 => unfold maxLen; have := OL.out; have := HL.out; omega
          case p11a4 => have := OL.out; have := HL.out; omega
          case p11a5 => first | omega | (simp; omega)
          case p11a6 =>
            intro v1 W1 hown1 hgrow1 _ _
            have O2 : Hid (W1.ownsRow w.heap.size 33 3 v1 (o ++ [(fr, x - 1, n)]).length (cel3 .i64 (o ++ [(fr, x - 1, n)]))) := by rw [Hid, cel3_snoc, List.length_append]; exact hown1
            have B2 : Hid (Below w.heap.size w W1) := (B1.out.alloc (by have := B1.out.size; simp at this ⊢; omega) _).grown hgrow1 (by have := B1.out.size; simp at this ⊢; omega) (fun j hj => (O1.out.lt j hj).1)
            obtain ⟨cq1, cq2, cq3⟩ : W1.cell? ⟨wr.heap.size, 0, none⟩ = some (.int .i64 x) ∧ W1.cell? ⟨wr.heap.size, 1, none⟩ = some (.int .i64 y) ∧ W1.cell? ⟨wr.heap.size, 2, none⟩ = some (.int .i64 z) := cell3_kept hgrow1 q1 q2 q3 hO.out
            have OLs : Hid ((o ++ [(fr, x - 1, n)]).length = o.length + 1) := by rw [Hid]; simp
            have hb1 : w.heap.size ≤ W1.heap.size := B2.out.size
            clear hown1 hgrow1
            go_wp2_with (at_builtin; refine wpList_append_own_at _ rfl _ _ 25 rfl w.heap.size 33 i0 _ 3 24 Try.underlying25 hi hz0 hz1 hz2 rfl (by decide) _ _ _ rfl (O2.out.alloc _) ⟨_, 0, none⟩ 1 1 [.int .i64 x, .int .i64 t, .int .i64 z] rfl rfl ?p11b1 ?p11b2 ?p11b3 ?p11b4 ?p11b5 ?p11b6)
            try any_goals (first | exact cells_new _ #[.int .i64 x, .int .i64 t, .int .i64 z] _ | (intro j u hj; have hj2 := cells_new (wr.alloc (.cells #[.int .i64 x, .int .i64 y, .int .i64 z] 33)) #[.int .i64 x, .int .i64 t, .int .i64 z] 33 j u hj; rw [World.size_alloc] at hj2; exact hj2))
            case p11b2 => simp [Value.oneCell']
            case p11b3 => unfold maxLen; have := OL.out; have := HL.out; have := OLs.out; omega
            case p11b4 => have := OL.out; have := HL.out; have := OLs.out; omega
            case p11b5 => first | omega | (simp; omega)
            case p11b6 =>
              intro v2 W2 hown2 hgrow2 _ _
              have O3 : Hid (W2.ownsRow w.heap.size 33 3 v2 (o ++ [(fr, x - 1, n)] ++ [(x, t, z)]).length (cel3 .i64 (o ++ [(fr, x - 1, n)] ++ [(x, t, z)]))) := by rw [Hid, cel3_snoc, List.length_append, List.length_append]; exact hown2
              have B3 : Hid (Below w.heap.size w W2) := (B2.out.alloc (by have := B2.out.size; simp at this ⊢; omega) _).grown hgrow2 (by have := B2.out.size; simp at this ⊢; omega) (fun j hj => (O2.out.lt j hj).1)
              have hst2 : Hid ((Y.take (k + 1)).foldl (cutS n t) ([], f) = (o ++ [(fr, x - 1, n)] ++ [(x, t, z)], t + 1)) := by rw [Hid, hst]
              clear hown2 hgrow2 O1 B1 O2 B2 cq1 cq2 cq3 q1 q2 q3 hst OL
              go_wp2
              exact ⟨⟨k + 1, _, t + 1, by omega, by go_num, rfl, hst2, O3, B3⟩, by simp [intOf]; omega⟩
        · skip
          have d3 : decide (fr < x) = true := decide_eq_true c3
          have d4 : decide (t < y) = false := decide_eq_false c4
          rw [if_pos c3, if_pos c3, if_neg c4] at hst
          go_wp2_with (at_builtin; refine wpList_append_own_at _ rfl _ _ 25 rfl w.heap.size 33 i0 _ 3 24 Try.underlying25 hi hz0 hz1 hz2 rfl (by decide) _ _ _ rfl (O1.out.alloc _) ⟨_, 0, none⟩ 1 1 [.int .i64 fr, .int .i64 (x - 1), .int .i64 n] rfl rfl ?p10a1 ?p10a2 ?p10a3 ?p10a4 ?p10a5 ?p10a6)
          try any_goals (first | exact cells_new _ #[.int .i64 fr, .int .i64 (x - 1), .int .i64 n] _ | (intro j u hj; have hj2 := cells_new (wr.alloc (.cells #[.int .i64 x, .int .i64 y, .int .i64 z] 33)) #[.int .i64 fr, .int .i64 (x - 1), .int .i64 n] 33 j u hj; rw [World.size_alloc] at hj2; exact hj2))
          case p10a2 => simp [Value.oneCell']
          case p10a3 => unfold maxLen; have := OL.out; have := HL.out; omega
          case p10a4 => have := OL.out; have := HL.out; omega
          case p10a5 => first | omega | (simp; omega)
          case p10a6 =>
            intro v1 W1 hown1 hgrow1 _ _
            have O2 : Hid (W1.ownsRow w.heap.size 33 3 v1 (o ++ [(fr, x - 1, n)]).length (cel3 .i64 (o ++ [(fr, x - 1, n)]))) := by rw [Hid, cel3_snoc, List.length_append]; exact hown1
            have B2 : Hid (Below w.heap.size w W1) := (B1.out.alloc (by have := B1.out.size; simp at this ⊢; omega) _).grown hgrow1 (by have := B1.out.size; simp at this ⊢; omega) (fun j hj => (O1.out.lt j hj).1)
            obtain ⟨cq1, cq2, cq3⟩ : W1.cell? ⟨wr.heap.size, 0, none⟩ = some (.int .i64 x) ∧ W1.cell? ⟨wr.heap.size, 1, none⟩ = some (.int .i64 y) ∧ W1.cell? ⟨wr.heap.size, 2, none⟩ = some (.int .i64 z) := cell3_kept hgrow1 q1 q2 q3 hO.out
            have OLs : Hid ((o ++ [(fr, x - 1, n)]).length = o.length + 1) := by rw [Hid]; simp
            have hb1 : w.heap.size ≤ W1.heap.size := B2.out.size
            clear hown1 hgrow1
            go_wp2_with (at_builtin; refine wpList_append_own_at _ rfl _ _ 25 rfl w.heap.size 33 i0 _ 3 24 Try.underlying25 hi hz0 hz1 hz2 rfl (by decide) _ _ _ rfl (O2.out.alloc _) ⟨_, 0, none⟩ 1 1 [.int .i64 x, .int .i64 y, .int .i64 z] rfl rfl ?p10b1 ?p10b2 ?p10b3 ?p10b4 ?p10b5 ?p10b6)
            try any_goals (first | exact cells_new _ #[.int .i64 x, .int .i64 y, .int .i64 z] _ | (intro j u hj; have hj2 := cells_new (wr.alloc (.cells #[.int .i64 x, .int .i64 y, .int .i64 z] 33)) #[.int .i64 x, .int .i64 y, .int .i64 z] 33 j u hj; rw [World.size_alloc] at hj2; exact hj2))
            case p10b2 => simp [Value.oneCell']
            case p10b3 => unfold maxLen; have := OL.out; have := HL.out; have := OLs.out; omega
            case p10b4 => have := OL.out; have := HL.out; have := OLs.out; omega
            case p10b5 => first | omega | (simp; omega)
            case p10b6 =>
              intro v2 W2 hown2 hgrow2 _ _
              have O3 : Hid (W2.ownsRow w.heap.size 33 3 v2 (o ++ [(fr, x - 1, n)] ++ [(x, y, z)]).length (cel3 .i64 (o ++ [(fr, x - 1, n)] ++ [(x, y, z)]))) := by rw [Hid, cel3_snoc, List.length_append, List.length_append]; exact hown2
              have B3 : Hid (Below w.heap.size w W2) := (B2.out.alloc (by have := B2.out.size; simp at this ⊢; omega) _).grown hgrow2 (by have := B2.out.size; simp at this ⊢; omega) (fun j hj => (O2.out.lt j hj).1)
              have hst2 : Hid ((Y.take (k + 1)).foldl (cutS n t) ([], f) = (o ++ [(fr, x - 1, n)] ++ [(x, y, z)], y + 1)) := by rw [Hid, hst]
              clear hown2 hgrow2 O1 B1 O2 B2 cq1 cq2 cq3 q1 q2 q3 hst OL
              go_wp2
              exact ⟨⟨k + 1, _, y + 1, by omega, by go_num, rfl, hst2, O3, B3⟩, by simp [intOf]; omega⟩
      · by_cases c4 : t < y
        · skip
          have d3 : decide (fr < x) = false := decide_eq_false c3
          have d4 : decide (t < y) = true := decide_eq_true c4
          rw [if_neg c3, if_neg c3, if_pos c4] at hst
          go_wp2_with (at_builtin; refine wpList_append_own_at _ rfl _ _ 25 rfl w.heap.size 33 i0 _ 3 24 Try.underlying25 hi hz0 hz1 hz2 rfl (by decide) _ _ _ rfl (O1.out.alloc _) ⟨_, 0, none⟩ 1 1 [.int .i64 fr, .int .i64 t, .int .i64 z] rfl rfl ?p01b1 ?p01b2 ?p01b3 ?p01b4 ?p01b5 ?p01b6)
          try any_goals (first | exact cells_new _ #[.int .i64 fr, .int .i64 t, .int .i64 z] _ | (intro j u hj; have hj2 := cells_new (wr.alloc (.cells #[.int .i64 x, .int .i64 y, .int .i64 z] 33)) #[.int .i64 fr, .int .i64 t, .int .i64 z] 33 j u hj; rw [World.size_alloc] at hj2; exact hj2))
          case p01b2 => simp [Value.oneCell']
          case p01b3 => unfold maxLen; have := OL.out; have := HL.out; omega
          case p01b4 => have := OL.out; have := HL.out; omega
          case p01b5 => first | omega | (simp; omega)
          case p01b6 =>
            intro v2 W2 hown2 hgrow2 _ _
            have O3 : Hid (W2.ownsRow w.heap.size 33 3 v2 (o ++ [(fr, t, z)]).length (cel3 .i64 (o ++ [(fr, t, z)]))) := by rw [Hid, cel3_snoc, List.length_append]; exact hown2
            have B3 : Hid (Below w.heap.size w W2) := (B1.out.alloc (by have := B1.out.size; simp at this ⊢; omega) _).grown hgrow2 (by have := B1.out.size; simp at this ⊢; omega) (fun j hj => (O1.out.lt j hj).1)
            have hst2 : Hid ((Y.take (k + 1)).foldl (cutS n t) ([], f) = (o ++ [(fr, t, z)], t + 1)) := by rw [Hid, hst]; simp
            clear hown2 hgrow2 O1 B1  q1 q2 q3 hst OL
            go_wp2
            exact ⟨⟨k + 1, _, t + 1, by omega, by go_num, rfl, hst2, O3, B3⟩, by simp [intOf]; omega⟩
        · skip
          have d3 : decide (fr < x) = false := decide_eq_false c3
          have d4 : decide (t < y) = false := decide_eq_false c4
          rw [if_neg c3, if_neg c3, if_neg c4] at hst
          go_wp2_with (at_builtin; refine wpList_append_own_at _ rfl _ _ 25 rfl w.heap.size 33 i0 _ 3 24 Try.underlying25 hi hz0 hz1 hz2 rfl (by decide) _ _ _ rfl (O1.out.alloc _) ⟨_, 0, none⟩ 1 1 [.int .i64 fr, .int .i64 y, .int .i64 z] rfl rfl ?p00b1 ?p00b2 ?p00b3 ?p00b4 ?p00b5 ?p00b6)
          try any_goals (first | exact cells_new _ #[.int .i64 fr, .int .i64 y, .int .i64 z] _ | (intro j u hj; have hj2 := cells_new (wr.alloc (.cells #[.int .i64 x, .int .i64 y, .int .i64 z] 33)) #[.int .i64 fr, .int .i64 y, .int .i64 z] 33 j u hj; rw [World.size_alloc] at hj2; exact hj2))
          case p00b2 => simp [Value.oneCell']
          case p00b3 => unfold maxLen; have := OL.out; have := HL.out; omega
          case p00b4 => have := OL.out; have := HL.out; omega
          case p00b5 => first | omega | (simp; omega)
          case p00b6 =>
            intro v2 W2 hown2 hgrow2 _ _
            have O3 : Hid (W2.ownsRow w.heap.size 33 3 v2 (o ++ [(fr, y, z)]).length (cel3 .i64 (o ++ [(fr, y, z)]))) := by rw [Hid, cel3_snoc, List.length_append]; exact hown2
            have B3 : Hid (Below w.heap.size w W2) := (B1.out.alloc (by have := B1.out.size; simp at this ⊢; omega) _).grown hgrow2 (by have := B1.out.size; simp at this ⊢; omega) (fun j hj => (O1.out.lt j hj).1)
            have hst2 : Hid ((Y.take (k + 1)).foldl (cutS n t) ([], f) = (o ++ [(fr, y, z)], y + 1)) := by rw [Hid, hst]; simp
            clear hown2 hgrow2 O1 B1  q1 q2 q3 hst OL
            go_wp2
            exact ⟨⟨k + 1, _, y + 1, by omega, by go_num, rfl, hst2, O3, B3⟩, by simp [intOf]; omega⟩
    · have kl : decide ((k : Int) < (Y.length : Int)) = false := decide_eq_false (by omega)
      have hke : Y.take k = Y := List.take_of_length_le (by omega)
      have hS2 := hS.out
      rw [hke] at hS2
      have HL : Hid (k ≤ 4000000) := by rw [Hid]; omega
      have hE : cutL Y f t n = o ++ if fr ≤ t then [(fr, t, n)] else [] := by rw [cutL, hS2]; rfl
      clear hS hS2 hke
      by_cases c : fr ≤ t
      · have d : decide (fr ≤ t) = true := decide_eq_true c
        rw [if_pos c] at hE
        replace hE : Hid (cutL Y f t n = o ++ [(fr, t, n)]) := hE
        clear c
        go_wp2_with (at_builtin; refine wpList_append_own_at _ rfl _ _ 25 rfl w.heap.size 33 i0 _ 3 24 Try.underlying25 hi hz0 hz1 hz2 rfl (by decide) _ _ _ rfl (hO.out.alloc _) ⟨_, 0, none⟩ 1 1 [.int .i64 fr, .int .i64 t, .int .i64 n] rfl rfl ?pe1 ?pe2 ?pe3 ?pe4 ?pe5 ?pe6)
        try any_goals (first | exact cells_new _ #[.int .i64 fr, .int .i64 t, .int .i64 n] _ | fail)
        case pe2 => simp [Value.oneCell']
        case pe3 => unfold maxLen; have := OL.out; have := HL.out; omega
        case pe4 => have := OL.out; have := HL.out; omega
        case pe5 => first | omega | (simp; omega)
        case pe6 =>
          intro v1 W1 hown1 hgrow1 _ _
          have O2 : Hid (W1.ownsRow w.heap.size 33 3 v1 (cutL Y f t n).length (cel3 .i64 (cutL Y f t n))) := by rw [Hid, hE.out, cel3_snoc, List.length_append]; exact hown1
          have B2 : Hid (Below w.heap.size w W1) := (hB.out.alloc (by have := hB.out.size; omega) _).grown hgrow1 (by have := hB.out.size; simp at this ⊢; omega) (fun j hj => (hO.out.lt j hj).1)
          clear hown1 hgrow1
          go_wp2
          go_ret
          exact ⟨_, rfl, O2.out, B2.out⟩
      · have d : decide (fr ≤ t) = false := decide_eq_false c
        rw [if_neg c, List.append_nil] at hE
        have O2 : Hid (wr.ownsRow w.heap.size 33 3 u9 (cutL Y f t n).length (cel3 .i64 (cutL Y f t n))) := by rw [Hid, hE]; exact hO.out
        clear c hE
        go_wp2
        go_ret
        exact ⟨_, rfl, O2.out, hB.out⟩
end Go.Proofs.Ytookbgmolggohaa
