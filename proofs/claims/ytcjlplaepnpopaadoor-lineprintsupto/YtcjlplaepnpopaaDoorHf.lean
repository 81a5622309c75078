/-
  ContainsAny of ASCII bytes in whatever text.
-/
import Derived.Test.YtcjlplaepnpopaaDoorHe
import Derived.Lib.IndexAny
import Derived.LoopN
import Derived.OwnWalk
import Derived.WalkSmall
import Derived.BigQuiet
import Derived.Deep.QuietTactic
import Derived.KernelRfl
import Derived.Laws.RangeAny
import Derived.Lib.OthersKept
namespace Go.Proofs.YtcjlplaepnpopaaDoor
open Go.RowKit
theorem hasK_iff {o : ByteArray} {c : Nat} : ∀ n, hasK o c n = true ↔ ∃ k, k < n ∧ byt o k = c
  | 0 => by simp [hasK]
  | n + 1 => by
    rw [hasK, Bool.or_eq_true, hasK_iff n, beq_iff_eq]
    constructor
    · rintro (⟨k, h1, h2⟩ | h)
      · exact ⟨k, by omega, h2⟩
      · exact ⟨n, by omega, h⟩
    · rintro ⟨k, h1, h2⟩
      by_cases q : k = n
      · subst q; exact .inr h2
      · exact .inl ⟨k, by omega, h2⟩
theorem hasI_iff {s o : ByteArray} : ∀ n, hasI s o n = true ↔ ∃ i, i < n ∧ hasK o (byt s i) o.size = true
  | 0 => by simp [hasI]
  | n + 1 => by
    rw [hasI, Bool.or_eq_true, hasI_iff n]
    constructor
    · rintro (⟨k, h1, h2⟩ | h)
      · exact ⟨k, by omega, h2⟩
      · exact ⟨n, by omega, h⟩
    · rintro ⟨k, h1, h2⟩
      by_cases q : k = n
      · subst q; exact .inr h2
      · exact .inl ⟨k, by omega, h2⟩
theorem mem_byt {o : ByteArray} {x : UInt8} : x ∈ o.data.toList ↔ ∃ k, k < o.size ∧ byt o k = x.toNat := by
  constructor
  · intro h
    obtain ⟨k, hk, e⟩ := List.getElem_of_mem h
    have hz : k < o.size := by rw [Array.length_toList] at hk; exact hk
    refine ⟨k, hz, ?_⟩
    rw [← byt_eq o k hz]
    show (o.data[k]'hz).toNat = _
    rw [← e]; rfl
  · rintro ⟨k, hz, e⟩
    rw [← byt_eq o k hz] at e
    have : o[k]'hz = x := UInt8.toNat_inj.1 e
    rw [← this]
    show o.data[k]'hz ∈ o.data.toList
    exact Array.getElem_mem_toList ..
theorem contains_hasK (o : ByteArray) (Y : Nat) (hY : Y < 256) : o.data.toList.contains (UInt8.ofNat Y) = hasK o Y o.size := by
  rw [Bool.eq_iff_iff, List.contains_iff_mem, mem_byt, hasK_iff, UInt8.toNat_ofNat_of_lt' hY]
theorem indexAny_iff (c : List UInt8) : ∀ l : List UInt8, 0 ≤ Lib.indexAny l c ↔ ∃ b ∈ l, c.contains b = true
  | [] => by simp [Lib.indexAny]
  | b :: l => by
    have ih := indexAny_iff c l
    have hg := Lib.indexAny_ge c l
    rw [Lib.indexAny]
    by_cases h : c.contains b = true
    · rw [if_pos h]
      exact ⟨fun _ => ⟨b, by simp, h⟩, fun _ => Int.le_refl _⟩
    · rw [if_neg h]
      have hb : (∃ x ∈ b :: l, c.contains x = true) ↔ ∃ x ∈ l, c.contains x = true := by
        constructor
        · rintro ⟨x, hx, hc⟩
          rcases List.mem_cons.1 hx with rfl | hx
          · exact absurd hc h
          · exact ⟨x, hx, hc⟩
        · rintro ⟨x, hx, hc⟩
          exact ⟨x, by simp [hx], hc⟩
      rw [hb, ← ih]
      by_cases q : Lib.indexAny l c = -1
      · have q2 : (Lib.indexAny l c == -1) = true := by simp [q]
        rw [if_pos q2, q]
      · have q2 : ¬ (Lib.indexAny l c == -1) = true := by simp [q]
        rw [if_neg q2]
        omega
theorem indexAny_has (s o : ByteArray) : decide (0 ≤ Lib.indexAny s.data.toList o.data.toList) = hasB s o := by
  rw [Bool.eq_iff_iff, decide_eq_true_iff, indexAny_iff]
  unfold hasB
  rw [hasI_iff]
  constructor
  · rintro ⟨b, hb, hc⟩
    obtain ⟨i, hi, e⟩ := mem_byt.1 hb
    refine ⟨i, hi, ?_⟩
    rw [← contains_hasK o _ (byt_lt s i), e, UInt8.ofNat_toNat]
    exact hc
  · rintro ⟨i, hi, h⟩
    rw [← contains_hasK o _ (byt_lt s i)] at h
    exact ⟨_, mem_byt.2 ⟨i, hi, (UInt8.toNat_ofNat_of_lt' (byt_lt s i)).symm⟩, h⟩
/-- IndexRune of whatever code point in a text of ASCII. -/
theorem idxRune_any (o : ByteArray) (r : Nat) (w : World) (ho : o.size ≤ 1000) (hA : Asc o) (h1 : r ≤ 1114111) (h2 : ¬ (55296 ≤ r ∧ r < 57344)) :
    Calls Tryd.prog 75 #[.string o, .int .i32 (r : Int)] w fun e w' => (∃ n : Int, e = .returned (.int .i64 n) ∧ decide (0 ≤ n) = (if r < 128 then hasK o r o.size else false)) ∧ Below w.heap.size w w' := by
  by_cases c : r < 128
  · refine (Tryd.strings_IndexRune_ascii o (r : Int) w (by omega) (by omega)).mono ?_
    rintro e w' ⟨rfl, rfl⟩
    refine ⟨⟨_, rfl, ?_⟩, Below.refl _ _⟩
    rw [if_pos c, ← Lib.contains_iff_indexByte, ← contains_hasK o r (by omega)]
    rfl
  · rw [if_neg c]
    by_cases d : r = 65533
    · subst d
      refine (idxRune_err o w hA).mono ?_
      rintro e w' ⟨rfl, hb⟩
      exact ⟨⟨_, rfl, rfl⟩, hb⟩
    · refine (idxRune_high o r w ho hA (by omega) h1 h2 d).mono ?_
      rintro e w' ⟨rfl, hb⟩
      exact ⟨⟨_, rfl, rfl⟩, hb⟩
set_option maxRecDepth 100000 in
set_option maxHeartbeats 1000000 in
theorem idxAny_short (s o : ByteArray) (w : World) (h8 : s.size ≤ 8) (h2 : 2 ≤ o.size) (ho : o.size ≤ 1000) (hA : Asc o) :
    Calls Tryd.prog 67 #[.string s, .string o] w fun e w' => (∃ n : Int, e = .returned (.int .i64 n) ∧ decide (0 ≤ n) = hasB s o) ∧ Below w.heap.size w w' := by
  have e1 := toList_ne (s := o) (by omega)
  have e2 := toList_ie (s := o) (by omega)
  have hn1 : ((o.size : Int) == 1) = false := beq_false_of_ne (by omega)
  have h8z : decide ((8 : Int) < (s.size : Int)) = false := decide_eq_false (by omega)
  have k76 := fun n w => Tryd.strings_shouldUseASCIISet n w
  have HK : Hid (∀ (r : Nat) w, r < 128 → Calls Tryd.prog 75 #[.string o, .int .i32 (r : Int)] w fun e w' => ∃ n : Int, e = .returned (.int .i64 n) ∧ Hid (decide (0 ≤ n) = hasK o r o.size) ∧ Hid (Below w.heap.size w w')) := fun r w a => (idxRune_any o r w ho hA (by omega) (by omega)).mono fun e w' h => by
    obtain ⟨⟨n, h1, h2⟩, h3⟩ := h
    rw [if_pos a] at h2
    exact ⟨n, h1, h2, h3⟩
  have HK2 : Hid (∀ (r : Nat) w, 128 ≤ r → r ≤ 1114111 → ¬ (55296 ≤ r ∧ r < 57344) → Calls Tryd.prog 75 #[.string o, .int .i32 (r : Int)] w fun e w' => ∃ n : Int, e = .returned (.int .i64 n) ∧ Hid (decide (0 ≤ n) = false) ∧ Hid (Below w.heap.size w w')) := fun r w a b c => (idxRune_any o r w ho hA b c).mono fun e w' h => by
    obtain ⟨⟨n, h1, h2⟩, h3⟩ := h
    rw [if_neg (by omega)] at h2
    exact ⟨n, h1, h2, h3⟩
  have HA : Hid (Asc o) := hA
  clear hA
  go_enter Tryd.func67, Tryd.ntmps67
  go_wp2_with (go_at_call 76; refine (k76 _ _).mono ?_; rintro e w' ⟨rfl, hw⟩; rw [hw, h8z])
  clear k76 e1 e2 hn1 h8z
  go_loopw [9, 10] (fun _ _ wr => ∃ k : Nat, k ≤ s.size ∧ wr.heap[w.heap.size]? = some (.stringIter s k) ∧ Hid (Below w.heap.size w wr) ∧ Hid (hasI s o k = false)) (fun _ _ wr => s.size - wr.iterPos w.heap.size)
  case atStart => exact ⟨0, Nat.zero_le _, World.iter_heap w s 0, (Below.refl _ _).alloc (Nat.le_refl _) _, rfl⟩
  case round =>
    obtain ⟨k, hk, hit, hB, hI⟩ := hrel
    by_cases c : k < s.size
    · have hnx := fun ty => Lib.run_next_any_at (P := Tryd.prog) wr w.heap.size s k ty hit c
      rcases dec_any s k c with ⟨hY, hd⟩ | ⟨r, z, hd, g1, g2, g3, g4, g5, g6⟩
      · rw [hd] at hnx
        dsimp only at hnx
        have HYes : Hid (hasK o (byt s k) o.size = true → hasB s o = true) := fun h => (hasI_iff _).2 ⟨k, c, h⟩
        have HNo : Hid (hasK o (byt s k) o.size = false → hasI s o (k + 1) = false) := fun h => by rw [hasI, hI.out, h]; rfl
        obtain ⟨Y, eY⟩ : ∃ Y, byt s k = Y := ⟨_, rfl⟩
        rw [eY] at hnx hY HYes HNo
        clear eY hd hI
        have hit2 : (wr.iterAt w.heap.size s (k + 1)).heap[w.heap.size]? = some (.stringIter s (k + 1)) := Lib.iterAt_heap wr _ s k _ hit
        have HB2 : Hid (Below w.heap.size w (wr.iterAt w.heap.size s (k + 1))) := Lib.below_iterAt hB.out (Nat.le_refl _) s _
        obtain ⟨W1, hW1⟩ : ∃ W1, wr.iterAt w.heap.size s (k + 1) = W1 := ⟨_, rfl⟩
        rw [hW1] at hit2 HB2
        simp only [hW1] at hnx
        have hlt : w.heap.size < W1.heap.size := (Array.getElem?_eq_some_iff.1 hit2).1
        clear hW1 hB
        go_wp2_with (go_at_call 75; refine (HK.out Y _ hY).mono ?_)
        rintro e w2 ⟨n, rfl, hn, hb⟩
        have hn := hn.out
        have hb := hb.out
        have hit3 : w2.heap[w.heap.size]? = some (.stringIter s (k + 1)) := (hb.block _ hlt).trans hit2
        have HB3 : Hid (Below w.heap.size w w2) := HB2.out.trans (hb.mono (Nat.le_of_lt hlt))
        clear HB2 hb hlt hit2
        cases q : hasK o Y o.size with
        | true =>
          rw [q] at hn
          have h0 : 0 ≤ n := of_decide_eq_true hn
          have HR : Hid (hasB s o = true) := HYes.out q
          clear hn HYes HNo q
          go_wp2
          exact bodyPost_ret (v := .int .i64 (k : Int)) (by simp [results, Tryd.results67, go_sem]) rfl ⟨⟨(k : Int), rfl, by rw [HR.out]; exact decide_eq_true (Int.natCast_nonneg _)⟩, HB3.out⟩
        | false =>
          rw [q] at hn
          have h0 : ¬ 0 ≤ n := of_decide_eq_false hn
          have HR : Hid (hasI s o (k + 1) = false) := HNo.out q
          clear hn HYes HNo q
          go_wp2
          refine ⟨⟨k + 1, by omega, hit3, HB3, HR⟩, ?_⟩
          simp only [World.iterPos, hit3, hit]
          omega
      · rw [hd] at hnx
        dsimp only at hnx
        have HR : Hid (hasI s o (k + z) = false) := by
          unfold Hid
          rw [Bool.eq_false_iff]
          intro h
          obtain ⟨i, h1, h2⟩ := (hasI_iff _).1 h
          obtain ⟨j, h3, h4⟩ := (hasK_iff _).1 h2
          by_cases q : i < k
          · have := hI.out
            rw [(hasI_iff _).2 ⟨i, q, h2⟩] at this
            cases this
          · have := g6 i (by omega) h1
            have := HA.out j h3
            omega
        have hit2 : (wr.iterAt w.heap.size s (k + z)).heap[w.heap.size]? = some (.stringIter s (k + z)) := Lib.iterAt_heap wr _ s k _ hit
        have HB2 : Hid (Below w.heap.size w (wr.iterAt w.heap.size s (k + z))) := Lib.below_iterAt hB.out (Nat.le_refl _) s _
        obtain ⟨W1, hW1⟩ : ∃ W1, wr.iterAt w.heap.size s (k + z) = W1 := ⟨_, rfl⟩
        rw [hW1] at hit2 HB2
        simp only [hW1] at hnx
        have hlt : w.heap.size < W1.heap.size := (Array.getElem?_eq_some_iff.1 hit2).1
        have HG : Hid (128 ≤ r ∧ r ≤ 1114111 ∧ ¬ (55296 ≤ r ∧ r < 57344) ∧ 1 ≤ z ∧ k + z ≤ s.size) := ⟨g1, g2, g3, g4, g5⟩
        clear hW1 hB hd hI g1 g2 g3 g4 g5 g6
        go_wp2_with (go_at_call 75; refine (HK2.out r _ HG.out.1 HG.out.2.1 HG.out.2.2.1).mono ?_)
        rintro e w2 ⟨n, rfl, hn, hb⟩
        have hn := hn.out
        have hb := hb.out
        have hit3 : w2.heap[w.heap.size]? = some (.stringIter s (k + z)) := (hb.block _ hlt).trans hit2
        have HB3 : Hid (Below w.heap.size w w2) := HB2.out.trans (hb.mono (Nat.le_of_lt hlt))
        have h0 : ¬ 0 ≤ n := of_decide_eq_false hn
        clear HB2 hb hlt hit2 hn
        go_wp2
        refine ⟨⟨k + z, HG.out.2.2.2.2, hit3, HB3, HR⟩, ?_⟩
        have := HG.out.2.2.2.1
        simp only [World.iterPos, hit3, hit]
        omega
    · have hnx := fun ty => Lib.run_next_end_at (P := Tryd.prog) wr w.heap.size s k ty hit c
      go_wp2
      have hk2 : k = s.size := by omega
      have HR : Hid (hasB s o = false) := by rw [hk2] at hI; exact hI
      exact bodyPost_ret (v := .int .i64 (-1)) (by simp [results, Tryd.results67, go_sem]) rfl ⟨⟨-1, rfl, by rw [HR.out]; rfl⟩, hB.out⟩
end Go.Proofs.YtcjlplaepnpopaaDoor
