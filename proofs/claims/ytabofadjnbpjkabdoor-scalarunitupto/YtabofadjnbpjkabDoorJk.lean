/-
  The contract of the document's Lines. Conditions: the text has at most 2^32 bytes.
-/
import Derived.Test.YtabofadjnbpjkabDoorJj
namespace Go.Proofs.YtabofadjnbpjkabDoor
open Go.RowKit Go.Lib
theorem own_none9 (W : World) (b : Nat) (hb : b ≤ W.heap.size) : (W.alloc (.cells #[] 9)).ownsRow b 9 1 (.slice (some ⟨W.heap.size, 0, none⟩) 0 0) 0 [] :=
  ⟨rfl, .inr ⟨_, _, _, rfl, hb, World.alloc_heap_new _ _, by simp, by decide, rfl, rfl⟩⟩
set_option maxRecDepth 100000 in
set_option maxHeartbeats 4000000 in
theorem rlines_any (s : ByteArray) (w : World) (hs : s.size ≤ 4294967296) : Calls Tryd.prog 30 #[.string s] w fun e W' => ∃ v, e = .returned v ∧ W'.ownsRow w.heap.size 9 1 v (lnAll s).length (strC (lnAll s)) ∧ Below w.heap.size w W' := by
  obtain ⟨i9, hi9, hz0, hz1, hz2⟩ := info_parts info9
  have hsi : (s.size : Int) ≤ 4294967296 := by omega
  have HS : Hid (s.size ≤ 4294967296) := hs
  clear hs
  have O0 : Hid ((w.alloc (.cells #[] 9)).ownsRow w.heap.size 9 1 (.slice (some ⟨w.heap.size, 0, none⟩) 0 0) 0 []) := own_none9 w _ (Nat.le_refl _)
  have B0 : Hid (Below w.heap.size w (w.alloc (.cells #[] 9))) := (Below.refl _ _).alloc (Nat.le_refl _) _
  go_enter Tryd.func30, Tryd.ntmps30
  go_wp2_with fail
  generalize w.alloc (.cells #[] 9) = W0 at *
  go_loopw [3, 4, 5] (fun v f z wr => ∃ (i l : Nat), i ≤ s.size ∧ z = .int .i64 (i : Nat) ∧ f = .int .i64 (l : Nat) ∧ Hid (l = lst s i) ∧ Hid (wr.ownsRow w.heap.size 9 1 v (lnL s i).length (strC (lnL s i))) ∧ Hid (Below w.heap.size w wr)) (fun _ _ z _ => s.size - (RowKit.intOf z).toNat)
  case atStart => exact ⟨0, 0, Nat.zero_le _, rfl, rfl, rfl, O0, B0⟩
  case round =>
    clear O0 B0
    obtain ⟨i, l, hi, rfl, rfl, hl, hO, hB⟩ := hrel
    have hwz := hB.out.size
    have hli : l ≤ i := by rw [hl.out]; exact lst_le s i
    have HLL : Hid ((lnL s i).length ≤ 4294967296) := by have := lnL_le s i; have := HS.out; unfold Hid; omega
    have hlii : (l : Int) ≤ (i : Int) := by omega
    by_cases hlt : i < s.size
    · have hlti : (i : Int) < (s.size : Int) := by omega
      have hiis : (i : Int) ≤ (s.size : Int) := by omega
      have hn1 : ¬ s.size ≤ i := by omega
      have hb := byt_eq s i hlt
      have hbl := byt_lt s i
      obtain ⟨b, hbb⟩ : ∃ b, byt s i = b := ⟨_, rfl⟩
      rw [hbb] at hb hbl
      by_cases h1 : b = 10
      · subst h1
        have he : eol s i = true := by unfold eol; rw [hbb]; rfl
        by_cases h2 : l < i
        · have h2i : (l : Int) < (i : Int) := by omega
          obtain ⟨j, hj⟩ : ∃ j, i = j + 1 := ⟨i - 1, by omega⟩
          have hjj : (i : Int) - 1 = (j : Int) := by omega
          have hjlt : j < s.size := by omega
          have hb2 := byt_eq s j hjlt
          have hbl2 := byt_lt s j
          obtain ⟨b2, hbb2⟩ : ∃ b2, byt s j = b2 := ⟨_, rfl⟩
          rw [hbb2] at hb2 hbl2
          have hjs : (j : Int) < (s.size : Int) := by omega
          have hn2 : ¬ s.size ≤ j := by omega
          have hljj : (l : Int) ≤ (j : Int) := by omega
          have hjs2 : (j : Int) ≤ (s.size : Int) := by omega
          by_cases h3 : b2 = 13
          · subst h3
            have L2 : Hid (i + 1 = lst s (i + 1)) := ((cnt_succ s i he).2).symm
            have E2 : Hid (lnL s (i + 1) = lnL s i ++ [s.extract l j]) := by
              unfold Hid
              rw [lnL_succ s i he]
              congr 2
              have hl' := hl.out
              rw [← hl']; unfold lne; rw [if_pos ⟨by omega, by rw [hj, Nat.add_sub_cancel]; exact hbb2⟩, hj, Nat.add_sub_cancel]
            have BX : Hid (Below w.heap.size w wr) := hB
            have hOA : Hid (∀ x, (wr.alloc (.cells #[x] 9)).ownsRow w.heap.size 9 1 u3 (lnL s i).length (strC (lnL s i))) := fun x => hO.out.alloc _
            clear he hl hO hB hbb
            clear hbb2 hj
            go_wp2_with (at_builtin; go_must (refine wpList_append_own_at _ rfl _ _ 36 rfl w.heap.size 9 i9 _ 1 16 Tryd.underlying36 hi9 hz0 hz1 hz2 rfl (by decide) _ _ _ rfl (hOA.out _) ⟨_, 0, none⟩ 1 1 [.string (s.extract l j)] rfl rfl (cell_one_new _ _ _) ?a2 ?a3 ?a4 ?a5 ?a6))
            case a2 => simp [Value.oneCell']
            case a3 => have := HLL.out; unfold maxLen; omega
            case a4 => have := HLL.out; omega
            case a5 => first | omega | (simp; omega)
            case a6 =>
              intro v1 W1 hown1 hgrow1 _ _
              have B3 : Hid (Below w.heap.size w W1) := (BX.out.alloc BX.out.size _).grown hgrow1 (by simp; omega) (fun j hj => ((hOA.out (.string ⟨#[]⟩)).lt j hj).1)
              have O3 : Hid (W1.ownsRow w.heap.size 9 1 v1 (lnL s (i + 1)).length (strC (lnL s (i + 1)))) := by
                unfold Hid
                rw [E2.out, strC_app, List.length_append]
                exact hown1
              clear hown1 hgrow1 hOA BX E2
              go_wp2
              refine ⟨⟨i + 1, i + 1, ?_, ?_, ?_, L2, O3, B3⟩, ?_⟩
              · omega
              · go_num
              · go_num
              · simp [RowKit.intOf]; omega
          · have d3 : ((b2 : Int) == 13) = false := beq_false_of_ne (by omega)
            have L2 : Hid (i + 1 = lst s (i + 1)) := ((cnt_succ s i he).2).symm
            have E2 : Hid (lnL s (i + 1) = lnL s i ++ [s.extract l i]) := by
              unfold Hid
              rw [lnL_succ s i he]
              congr 2
              have hl' := hl.out
              rw [← hl']; unfold lne; rw [if_neg fun c => h3 (by have := c.2; rw [hj, Nat.add_sub_cancel] at this; omega)]
            have BX : Hid (Below w.heap.size w wr) := hB
            have hOA : Hid (∀ x, (wr.alloc (.cells #[x] 9)).ownsRow w.heap.size 9 1 u3 (lnL s i).length (strC (lnL s i))) := fun x => hO.out.alloc _
            clear he hl hO hB hbb
            clear hbb2 hj h3
            go_wp2_with (at_builtin; go_must (refine wpList_append_own_at _ rfl _ _ 36 rfl w.heap.size 9 i9 _ 1 16 Tryd.underlying36 hi9 hz0 hz1 hz2 rfl (by decide) _ _ _ rfl (hOA.out _) ⟨_, 0, none⟩ 1 1 [.string (s.extract l i)] rfl rfl (cell_one_new _ _ _) ?b2 ?b3 ?b4 ?b5 ?b6))
            case b2 => simp [Value.oneCell']
            case b3 => have := HLL.out; unfold maxLen; omega
            case b4 => have := HLL.out; omega
            case b5 => first | omega | (simp; omega)
            case b6 =>
              intro v1 W1 hown1 hgrow1 _ _
              have B3 : Hid (Below w.heap.size w W1) := (BX.out.alloc BX.out.size _).grown hgrow1 (by simp; omega) (fun j hj => ((hOA.out (.string ⟨#[]⟩)).lt j hj).1)
              have O3 : Hid (W1.ownsRow w.heap.size 9 1 v1 (lnL s (i + 1)).length (strC (lnL s (i + 1)))) := by
                unfold Hid
                rw [E2.out, strC_app, List.length_append]
                exact hown1
              clear hown1 hgrow1 hOA BX E2
              go_wp2
              refine ⟨⟨i + 1, i + 1, ?_, ?_, ?_, L2, O3, B3⟩, ?_⟩
              · omega
              · go_num
              · go_num
              · simp [RowKit.intOf]; omega
        · have h2i : ¬ (l : Int) < (i : Int) := by omega
          have L2 : Hid (i + 1 = lst s (i + 1)) := ((cnt_succ s i he).2).symm
          have E2 : Hid (lnL s (i + 1) = lnL s i ++ [s.extract l i]) := by
            unfold Hid
            rw [lnL_succ s i he]
            congr 2
            have hl' := hl.out
            rw [← hl']; unfold lne; rw [if_neg fun c => h2 c.1]
          have BX : Hid (Below w.heap.size w wr) := hB
          have hOA : Hid (∀ x, (wr.alloc (.cells #[x] 9)).ownsRow w.heap.size 9 1 u3 (lnL s i).length (strC (lnL s i))) := fun x => hO.out.alloc _
          clear he hl hO hB hbb
          go_wp2_with (at_builtin; go_must (refine wpList_append_own_at _ rfl _ _ 36 rfl w.heap.size 9 i9 _ 1 16 Tryd.underlying36 hi9 hz0 hz1 hz2 rfl (by decide) _ _ _ rfl (hOA.out _) ⟨_, 0, none⟩ 1 1 [.string (s.extract l i)] rfl rfl (cell_one_new _ _ _) ?c2 ?c3 ?c4 ?c5 ?c6))
          case c2 => simp [Value.oneCell']
          case c3 => have := HLL.out; unfold maxLen; omega
          case c4 => have := HLL.out; omega
          case c5 => first | omega | (simp; omega)
          case c6 =>
            intro v1 W1 hown1 hgrow1 _ _
            have B3 : Hid (Below w.heap.size w W1) := (BX.out.alloc BX.out.size _).grown hgrow1 (by simp; omega) (fun j hj => ((hOA.out (.string ⟨#[]⟩)).lt j hj).1)
            have O3 : Hid (W1.ownsRow w.heap.size 9 1 v1 (lnL s (i + 1)).length (strC (lnL s (i + 1)))) := by
              unfold Hid
              rw [E2.out, strC_app, List.length_append]
              exact hown1
            clear hown1 hgrow1 hOA BX E2
            go_wp2
            refine ⟨⟨i + 1, i + 1, ?_, ?_, ?_, L2, O3, B3⟩, ?_⟩
            · omega
            · go_num
            · go_num
            · simp [RowKit.intOf]; omega
      · have d1 : ((b : Int) == 10) = false := beq_false_of_ne (by omega)
        by_cases h2 : b = 13
        · subst h2
          by_cases h3 : i + 1 = s.size
          · have he : eol s i = true := by unfold eol; rw [hbb, byt_out s _ (by omega)]; rfl
            have h3i : ((i : Int) + 1 == (s.size : Int)) = true := by simp; omega
            have L2 : Hid (i + 1 = lst s (i + 1)) := ((cnt_succ s i he).2).symm
            have E2 : Hid (lnL s (i + 1) = lnL s i ++ [s.extract l i]) := by
              unfold Hid
              rw [lnL_succ s i he]
              congr 2
              have hl' := hl.out
              rw [← hl', ]; have h9 := lne_13 s i (by rw [hbb]; omega); rw [← hl'] at h9; exact h9
            have BX : Hid (Below w.heap.size w wr) := hB
            have hOA : Hid (∀ x, (wr.alloc (.cells #[x] 9)).ownsRow w.heap.size 9 1 u3 (lnL s i).length (strC (lnL s i))) := fun x => hO.out.alloc _
            clear he hl hO hB hbb
            go_wp2_with (at_builtin; go_must (refine wpList_append_own_at _ rfl _ _ 36 rfl w.heap.size 9 i9 _ 1 16 Tryd.underlying36 hi9 hz0 hz1 hz2 rfl (by decide) _ _ _ rfl (hOA.out _) ⟨_, 0, none⟩ 1 1 [.string (s.extract l i)] rfl rfl (cell_one_new _ _ _) ?d2 ?d3 ?d4 ?d5 ?d6))
            case d2 => simp [Value.oneCell']
            case d3 => have := HLL.out; unfold maxLen; omega
            case d4 => have := HLL.out; omega
            case d5 => first | omega | (simp; omega)
            case d6 =>
              intro v1 W1 hown1 hgrow1 _ _
              have B3 : Hid (Below w.heap.size w W1) := (BX.out.alloc BX.out.size _).grown hgrow1 (by simp; omega) (fun j hj => ((hOA.out (.string ⟨#[]⟩)).lt j hj).1)
              have O3 : Hid (W1.ownsRow w.heap.size 9 1 v1 (lnL s (i + 1)).length (strC (lnL s (i + 1)))) := by
                unfold Hid
                rw [E2.out, strC_app, List.length_append]
                exact hown1
              clear hown1 hgrow1 hOA BX E2
              go_wp2
              refine ⟨⟨i + 1, i + 1, ?_, ?_, ?_, L2, O3, B3⟩, ?_⟩
              · omega
              · go_num
              · go_num
              · simp [RowKit.intOf]; omega
          · have h3i : ((i : Int) + 1 == (s.size : Int)) = false := beq_false_of_ne (by omega)
            have h3j : (i : Int) + 1 < (s.size : Int) := by omega
            have hn2 : ¬ s.size ≤ i + 1 := by omega
            have hb2 := byt_eq s (i + 1) (by omega)
            have hbl2 := byt_lt s (i + 1)
            obtain ⟨b2, hbb2⟩ : ∃ b2, byt s (i + 1) = b2 := ⟨_, rfl⟩
            rw [hbb2] at hb2 hbl2
            by_cases h4 : b2 = 10
            · subst h4
              have he : eol s i = false := by unfold eol; rw [hbb, hbb2]; rfl
              have O2 : Hid (wr.ownsRow w.heap.size 9 1 u3 (lnL s (i + 1)).length (strC (lnL s (i + 1)))) := by unfold Hid; rw [lnL_same s i he]; exact hO.out
              have L2 : Hid (l = lst s (i + 1)) := by unfold Hid; rw [(cnt_same s i he).2]; exact hl.out
              clear he hO hl hbb
              go_wp2
              refine ⟨⟨i + 1, l, ?_, ?_, rfl, L2, O2, hB⟩, ?_⟩
              · omega
              · go_num
              · simp [RowKit.intOf]; omega
            · have d4 : ((b2 : Int) != 10) = true := by simp; omega
              have he : eol s i = true := by unfold eol; rw [hbb, hbb2]; simp [h4]
              have L2 : Hid (i + 1 = lst s (i + 1)) := ((cnt_succ s i he).2).symm
              have E2 : Hid (lnL s (i + 1) = lnL s i ++ [s.extract l i]) := by
                unfold Hid
                rw [lnL_succ s i he]
                congr 2
                have hl' := hl.out
                have h9 := lne_13 s i (by rw [hbb]; omega); rw [← hl'] at h9 ⊢; exact h9
              have BX : Hid (Below w.heap.size w wr) := hB
              have hOA : Hid (∀ x, (wr.alloc (.cells #[x] 9)).ownsRow w.heap.size 9 1 u3 (lnL s i).length (strC (lnL s i))) := fun x => hO.out.alloc _
              clear he hl hO hB hbb
              clear hbb2 h4
              go_wp2_with (at_builtin; go_must (refine wpList_append_own_at _ rfl _ _ 36 rfl w.heap.size 9 i9 _ 1 16 Tryd.underlying36 hi9 hz0 hz1 hz2 rfl (by decide) _ _ _ rfl (hOA.out _) ⟨_, 0, none⟩ 1 1 [.string (s.extract l i)] rfl rfl (cell_one_new _ _ _) ?e2 ?e3 ?e4 ?e5 ?e6))
              case e2 => simp [Value.oneCell']
              case e3 => have := HLL.out; unfold maxLen; omega
              case e4 => have := HLL.out; omega
              case e5 => first | omega | (simp; omega)
              case e6 =>
                intro v1 W1 hown1 hgrow1 _ _
                have B3 : Hid (Below w.heap.size w W1) := (BX.out.alloc BX.out.size _).grown hgrow1 (by simp; omega) (fun j hj => ((hOA.out (.string ⟨#[]⟩)).lt j hj).1)
                have O3 : Hid (W1.ownsRow w.heap.size 9 1 v1 (lnL s (i + 1)).length (strC (lnL s (i + 1)))) := by
                  unfold Hid
                  rw [E2.out, strC_app, List.length_append]
                  exact hown1
                clear hown1 hgrow1 hOA BX E2
                go_wp2
                refine ⟨⟨i + 1, i + 1, ?_, ?_, ?_, L2, O3, B3⟩, ?_⟩
                · omega
                · go_num
                · go_num
                · simp [RowKit.intOf]; omega
        · have d2 : ((b : Int) == 13) = false := beq_false_of_ne (by omega)
          have he : eol s i = false := by unfold eol; rw [hbb]; simp [h1, h2]
          have O2 : Hid (wr.ownsRow w.heap.size 9 1 u3 (lnL s (i + 1)).length (strC (lnL s (i + 1)))) := by unfold Hid; rw [lnL_same s i he]; exact hO.out
          have L2 : Hid (l = lst s (i + 1)) := by unfold Hid; rw [(cnt_same s i he).2]; exact hl.out
          clear he hO hl hbb
          go_wp2
          refine ⟨⟨i + 1, l, ?_, ?_, rfl, L2, O2, hB⟩, ?_⟩
          · omega
          · go_num
          · simp [RowKit.intOf]; omega
    · have hlti : ¬ (i : Int) < (s.size : Int) := by omega
      have hie : i = s.size := by omega
      subst hie
      have E2 : Hid (lnAll s = lnL s s.size ++ [s.extract l s.size]) := by unfold Hid lnAll; rw [lne_end, ← hl.out]
      have BX : Hid (Below w.heap.size w wr) := hB
      have hOA : Hid (∀ x, (wr.alloc (.cells #[x] 9)).ownsRow w.heap.size 9 1 u3 (lnL s s.size).length (strC (lnL s s.size))) := fun x => hO.out.alloc _
      clear hl hlt hO hB
      go_wp2_with (at_builtin; go_must (refine wpList_append_own_at _ rfl _ _ 36 rfl w.heap.size 9 i9 _ 1 16 Tryd.underlying36 hi9 hz0 hz1 hz2 rfl (by decide) _ _ _ rfl (hOA.out _) ⟨_, 0, none⟩ 1 1 [.string (s.extract l s.size)] rfl rfl (cell_one_new _ _ _) ?f2 ?f3 ?f4 ?f5 ?f6))
      case f2 => simp [Value.oneCell']
      case f3 => have := HLL.out; unfold maxLen; omega
      case f4 => have := HLL.out; omega
      case f5 => first | omega | (simp; omega)
      case f6 =>
        intro v1 W1 hown1 hgrow1 _ _
        have B3 : Hid (Below w.heap.size w W1) := (BX.out.alloc BX.out.size _).grown hgrow1 (by simp; omega) (fun j hj => ((hOA.out (.string ⟨#[]⟩)).lt j hj).1)
        have O3 : Hid (W1.ownsRow w.heap.size 9 1 v1 (lnAll s).length (strC (lnAll s))) := by
          unfold Hid
          rw [E2.out, strC_app, List.length_append]
          exact hown1
        clear hown1 hgrow1 hOA BX E2
        go_wp2
        go_ret
        exact ⟨_, rfl, O3.out, B3.out⟩
end Go.Proofs.YtabofadjnbpjkabDoor
