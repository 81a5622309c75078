/-
  The contracts of Lines and of the document's Lines. Conditions: the text has at most 2^32 bytes.
-/
import Derived.Test.YtabofadjnbpjkabDoorJi
namespace Go.Proofs.YtabofadjnbpjkabDoor
open Go.RowKit Go.Lib
theorem info9 : (Tryd.prog.info? 9).map (fun i => (i.zero, i.size, i.bytes)) = some (some (.string ⟨#[]⟩), 1, 16) := by kernel_rfl
/-- Texts, as cells. -/
def strC (L : List ByteArray) : List Value := L.map fun b => Value.string b
theorem strC_app (L : List ByteArray) (b : ByteArray) : strC (L ++ [b]) = strC L ++ [.string b] := by simp [strC]
theorem lnL_succ (s : ByteArray) (i : Nat) (h : eol s i = true) : lnL s (i + 1) = lnL s i ++ [lne s (lst s i) i] := by
  conv => lhs; unfold lnL
  rw [h]; rfl
theorem lnL_same (s : ByteArray) (i : Nat) (h : eol s i = false) : lnL s (i + 1) = lnL s i := by
  conv => lhs; unfold lnL
  rw [h]; rfl
theorem lnL_le (s : ByteArray) (i : Nat) : (lnL s i).length ≤ i := by rw [lnL_len]; exact cnt_le s i
set_option maxRecDepth 100000 in
set_option maxHeartbeats 4000000 in
theorem lines_any (s : ByteArray) (w : World) (hs : s.size ≤ 4294967296) : Calls Tryd.prog 29 #[.string s] w fun e W' => ∃ v, e = .returned v ∧ W'.ownsRow w.heap.size 9 1 v (lnAll s).length (strC (lnAll s)) ∧ Below w.heap.size w W' := by
  obtain ⟨i9, hi9, hz0, hz1, hz2⟩ := info_parts info9
  have hsi : (s.size : Int) ≤ 4294967296 := by omega
  have HS : Hid (s.size ≤ 4294967296) := hs
  have KE : Hid (∀ W (k : Nat), k < s.size → Calls Tryd.prog 43 #[.string s, .int .i64 (k : Nat)] W fun e w' => e = .returned (.bool (eol s k)) ∧ w' = W) := fun W k hk => ends_any s k W (by omega) hk
  have KL : Hid (∀ W (a b : Nat), a ≤ b → b ≤ s.size → Calls Tryd.prog 46 #[.string (s.extract a b)] W fun e w' => e = .returned (.string (lne s a b)) ∧ Below W.heap.size W w') := fun W a b hab hb => by
    rw [← trm_lne s a b hb hab]
    exact line_any _ W (by simp; omega)
  clear hs
  go_enter Tryd.func29, Tryd.ntmps29
  go_wp2_with fail
  go_loopw [3, 4, 8] (fun v f z wr => ∃ (i l : Nat), i ≤ s.size ∧ z = .int .i64 (i : Nat) ∧ f = .int .i64 (l : Nat) ∧ Hid (l = lst s i) ∧ Hid (wr.ownsRow w.heap.size 9 1 v (lnL s i).length (strC (lnL s i))) ∧ Hid (Below w.heap.size w wr)) (fun _ _ z _ => s.size - (RowKit.intOf z).toNat)
  case atStart => exact ⟨0, 0, Nat.zero_le _, rfl, rfl, rfl, World.ownsRow_nil _ _ _ _, Below.refl _ _⟩
  case round =>
    obtain ⟨i, l, hi, rfl, rfl, hl, hO, hB⟩ := hrel
    have hwz := hB.out.size
    have hli : l ≤ i := by rw [hl.out]; exact lst_le s i
    have HLL : Hid ((lnL s i).length ≤ 4294967296) := by have := lnL_le s i; have := HS.out; unfold Hid; omega
    have hlii : (l : Int) ≤ (i : Int) := by omega
    by_cases hlt : i < s.size
    · have hlti : (i : Int) < (s.size : Int) := by omega
      have K1 := KE.out
      have HI : Hid (i < s.size) := hlt
      cases he : eol s i
      · have K2 : Hid (∀ W, Calls Tryd.prog 43 #[.string s, .int .i64 (i : Nat)] W fun e w' => e = .returned (.bool false) ∧ w' = W) := fun W => by
          have := K1 W i hlt
          rw [he] at this
          exact this
        have O2 : Hid (wr.ownsRow w.heap.size 9 1 u3 (lnL s (i + 1)).length (strC (lnL s (i + 1)))) := by unfold Hid; rw [lnL_same s i he]; exact hO.out
        have L2 : Hid (l = lst s (i + 1)) := by unfold Hid; rw [(cnt_same s i he).2]; exact hl.out
        clear he K1 hO hl
        go_wp2_with (go_at_call 43; refine (K2.out _).mono ?_; rintro e w7 ⟨rfl, rfl⟩)
        refine ⟨⟨i + 1, l, ?_, ?_, rfl, L2, O2, hB⟩, ?_⟩
        · omega
        · go_num
        · simp [RowKit.intOf]; omega
      · have K2 : Hid (∀ W, Calls Tryd.prog 43 #[.string s, .int .i64 (i : Nat)] W fun e w' => e = .returned (.bool true) ∧ w' = W) := fun W => by
          have := K1 W i hlt
          rw [he] at this
          exact this
        have K3 : Hid (∀ W, Calls Tryd.prog 46 #[.string (s.extract l i)] W fun e w' => e = .returned (.string (lne s l i)) ∧ Below W.heap.size W w') := fun W => KL.out W l i hli (by omega)
        have L2 : Hid (i + 1 = lst s (i + 1)) := ((cnt_succ s i he).2).symm
        have E2 : Hid (lnL s (i + 1) = lnL s i ++ [lne s l i]) := by unfold Hid; rw [lnL_succ s i he, ← hl.out]
        have hiis : (i : Int) ≤ (s.size : Int) := by omega
        clear he K1 hl
        generalize lne s l i = S at *
        go_wp2_with (first | (go_at_call 43; refine (K2.out _).mono ?_; rintro e w7 ⟨rfl, rfl⟩) | (go_at_call 46; refine (K3.out _).mono ?_))
        first | rintro e w8 rfl b8 | rintro e w8 ⟨rfl, b8⟩
        have BX : Hid (Below w.heap.size w w8) := hB.out.trans (b8.mono hwz)
        have hOA : Hid (∀ x, (w8.alloc (.cells #[x] 9)).ownsRow w.heap.size 9 1 u3 (lnL s i).length (strC (lnL s i))) := fun x => (owns_below hO.out b8).alloc _
        have hw8 := BX.out.size
        clear b8 hO hB K2 K3
        go_wp2_with (at_builtin; go_must (refine wpList_append_own_at _ rfl _ _ 36 rfl w.heap.size 9 i9 _ 1 16 Tryd.underlying36 hi9 hz0 hz1 hz2 rfl (by decide) _ _ _ rfl (hOA.out _) ⟨_, 0, none⟩ 1 1 [.string S] rfl rfl ?a1 ?a2 ?a3 ?a4 ?a5 ?a6))
        case a1 => exact cell_one_new _ _ _
        case a2 => simp [Value.oneCell']
        case a3 => have := HLL.out; unfold maxLen; omega
        case a4 => have := HLL.out; omega
        case a5 => simp; omega
        case a6 =>
          intro v1 W1 hown1 hgrow1 _ _
          have B3 : Hid (Below w.heap.size w W1) := (BX.out.alloc BX.out.size _).grown hgrow1 (by simp; omega) (fun j hj => ((hOA.out (.string ⟨#[]⟩)).lt j hj).1)
          have O3 : Hid (W1.ownsRow w.heap.size 9 1 v1 (lnL s (i + 1)).length (strC (lnL s (i + 1)))) := by
            unfold Hid
            rw [E2.out, strC_app, List.length_append]
            exact hown1
          clear hown1 hgrow1 hOA BX E2
          go_wp2
          refine ⟨⟨i + 1, i + 1, ?_, ?_, ?_, L2, O3, B3⟩, ?_⟩
          · omega
          · go_num
          · go_num
          · simp [RowKit.intOf]; omega
    · have hlti : ¬ (i : Int) < (s.size : Int) := by omega
      have hie : i = s.size := by omega
      subst hie
      have K3 : Hid (∀ W, Calls Tryd.prog 46 #[.string (s.extract l s.size)] W fun e w' => e = .returned (.string (lne s l s.size)) ∧ Below W.heap.size W w') := fun W => KL.out W l s.size hli (Nat.le_refl _)
      have E2 : Hid (lnAll s = lnL s s.size ++ [lne s l s.size]) := by unfold Hid lnAll; rw [← hl.out]
      clear KL KE hl hlt
      generalize lne s l s.size = S at *
      go_wp2_with (go_at_call 46; refine (K3.out _).mono ?_)
      first | rintro e w8 rfl b8 | rintro e w8 ⟨rfl, b8⟩
      have BX : Hid (Below w.heap.size w w8) := hB.out.trans (b8.mono hwz)
      have hOA : Hid (∀ x, (w8.alloc (.cells #[x] 9)).ownsRow w.heap.size 9 1 u3 (lnL s s.size).length (strC (lnL s s.size))) := fun x => (owns_below hO.out b8).alloc _
      have hw8 := BX.out.size
      clear b8 hO hB K3
      go_wp2_with (at_builtin; go_must (refine wpList_append_own_at _ rfl _ _ 36 rfl w.heap.size 9 i9 _ 1 16 Tryd.underlying36 hi9 hz0 hz1 hz2 rfl (by decide) _ _ _ rfl (hOA.out _) ⟨_, 0, none⟩ 1 1 [.string S] rfl rfl ?b1 ?b2 ?b3 ?b4 ?b5 ?b6))
      case b1 => exact cell_one_new _ _ _
      case b2 => simp [Value.oneCell']
      case b3 => have := HLL.out; unfold maxLen; omega
      case b4 => have := HLL.out; omega
      case b5 => simp; omega
      case b6 =>
        intro v1 W1 hown1 hgrow1 _ _
        have B3 : Hid (Below w.heap.size w W1) := (BX.out.alloc BX.out.size _).grown hgrow1 (by simp; omega) (fun j hj => ((hOA.out (.string ⟨#[]⟩)).lt j hj).1)
        have O3 : Hid (W1.ownsRow w.heap.size 9 1 v1 (lnAll s).length (strC (lnAll s))) := by
          unfold Hid
          rw [E2.out, strC_app, List.length_append]
          exact hown1
        clear hown1 hgrow1 hOA BX E2
        go_wp2
        go_ret
        exact ⟨_, rfl, O3.out, B3.out⟩
end Go.Proofs.YtabofadjnbpjkabDoor
