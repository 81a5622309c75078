/-
  The contracts of unfinished, wrongSize and pieceAt: the piece that begins at a byte of a text, by the document's table. Condition: the library's two tables hold what their text lays.
-/
import Derived.Test.YtabofadjnbpjkabDoorFull
namespace Go.Proofs.YtabofadjnbpjkabDoor
open Go.RowKit Go.Lib
theorem unf_any (s : ByteArray) (w : World) (hs : s.size ≤ maxLen) (hT : Utf8Tabs 0 1 w) : Calls Tryd.prog 36 #[.string s] w fun e w' => e = .returned (.bool (unfN s.size (byt s 0) (byt s 1) (byt s 2))) ∧ Below w.heap.size w w' := by
  obtain ⟨q, hq⟩ : ∃ q, unfN s.size (byt s 0) (byt s 1) (byt s 2) = q := ⟨_, rfl⟩
  have key := full_any s w hs hT
  rw [hq] at key ⊢
  clear hq
  go_enter Tryd.func36, Tryd.ntmps36
  go_wp2_with (go_at_call 50; refine key.mono ?_; rintro e w' ⟨rfl, hb⟩)
  go_ret
  exact ⟨by simp, hb⟩
theorem byt_extract (s : ByteArray) (a b j : Nat) (hb : b ≤ s.size) (h : a + j < b) : byt (s.extract a b) j = byt s (a + j) := by
  have hz : (s.extract a b).size = b - a := by simp; omega
  rw [← byt_eq _ _ (by omega), ← byt_eq s (a + j) (by omega)]
  congr 1
  simp [ByteArray.getElem_extract]
theorem byt_over (s : ByteArray) (j : Nat) (h : s.size ≤ j) : byt s j = 0 := by
  unfold byt
  cases s with
  | mk d =>
    show (d[j]!).toNat = 0
    rw [getElem!_neg d j (by have : d.size ≤ j := h; omega)]
    rfl
theorem byt_tail (s : ByteArray) (a j : Nat) : byt (s.extract a s.size) j = byt s (a + j) := by
  by_cases hj : a + j < s.size
  · exact byt_extract s a s.size j (Nat.le_refl _) hj
  · rw [byt_over, byt_over]
    · omega
    · simp; omega
theorem unfN_congr (n b0 b1 b2 c1 c2 : Nat) (h1 : 1 < n → b1 = c1) (h2 : 2 < n → b2 = c2) : unfN n b0 b1 b2 = unfN n b0 c1 c2 := by
  unfold unfN
  by_cases p1 : 1 < n
  · rw [h1 p1]
    by_cases p2 : 2 < n
    · rw [h2 p2]
    · simp [p2]
  · have p2 : ¬ 2 < n := by omega
    simp [p1, p2]
set_option maxHeartbeats 800000 in
theorem wrongSize_any (s : ByteArray) (w : World) (hs : s.size ≤ 140737488351232) (h1 : 1 ≤ s.size) (hT : Utf8Tabs 0 1 w) (hg : 1 < w.heap.size) (hw : wrN s.size (byt s 0) (byt s 1) (byt s 2) (byt s 3) = true) :
    Calls Tryd.prog 59 #[.string s] w fun e w' => e = .returned (.int .i64 (stN s.size (byt s 0) (byt s 1) (byt s 2) (byt s 3))) ∧ Below w.heap.size w w' := by
  have hst := st_le s.size (byt s 0) (byt s 1) (byt s 2) (byt s 3) h1
  have step := fun k => unf_step s.size (byt s 0) (byt s 1) (byt s 2) (byt s 3) k h1 hw
  have STEP : Hid (∀ k, 1 ≤ k → k ≤ stN s.size (byt s 0) (byt s 1) (byt s 2) (byt s 3) → ((k < s.size ∧ unfN (k + 1) (byt s 0) (byt s 1) (byt s 2) = true) ↔ k < stN s.size (byt s 0) (byt s 1) (byt s 2) (byt s 3))) := step
  clear step
  obtain ⟨st, hst0⟩ : ∃ st, stN s.size (byt s 0) (byt s 1) (byt s 2) (byt s 3) = st := ⟨_, rfl⟩
  rw [hst0] at hst STEP ⊢
  clear hst0 hw
  go_enter Tryd.func59, Tryd.ntmps59
  go_wp2_with fail
  go_loopw [3] (fun i wr => ∃ k : Nat, 1 ≤ k ∧ k ≤ st ∧ i = .int .i64 k ∧ Below w.heap.size w wr) (fun i _ => st - (RowKit.intOf i).toNat)
  case atStart => exact ⟨1, by omega, by omega, rfl, Below.refl _ _⟩
  case round =>
    obtain ⟨k, hk, hk', rfl, hbr⟩ := hrel
    have hstep := STEP.out k hk hk'
    have hTr : Utf8Tabs 0 1 wr := ⟨fun c hc => (hbr.cell (p := ⟨0, c, none⟩) (by simp; omega)).trans (hT.1 c hc), fun i hi => ⟨(hbr.cell (p := ⟨1, 2 * i, none⟩) hg).trans (hT.2 i hi).1, (hbr.cell (p := ⟨1, 2 * i + 1, none⟩) hg).trans (hT.2 i hi).2⟩⟩
    by_cases hlt : k < s.size
    · have key := unf_any (s.extract 0 (k + 1)) wr (by unfold maxLen; simp; omega) hTr
      have hz : (s.extract 0 (k + 1)).size = k + 1 := by simp; omega
      rw [hz, byt_extract s 0 (k + 1) 0 (by omega) (by omega)] at key
      rw [unfN_congr (k + 1) (byt s (0 + 0)) _ _ (byt s 1) (byt s 2) (fun h => by rw [byt_extract s 0 (k + 1) 1 (by omega) (by omega)]) (fun h => by rw [byt_extract s 0 (k + 1) 2 (by omega) (by omega)])] at key
      have hlti : (k : Int) < (s.size : Int) := by omega
      cases hu : unfN (k + 1) (byt s 0) (byt s 1) (byt s 2)
      · have he : ¬ k < st := fun h => by have := hstep.2 h; rw [hu] at this; simp at this
        have : k = st := by omega
        subst this
        rw [hu] at key
        clear hstep hu STEP hTr hT
        go_wp2_with (go_at_call 36; refine key.mono ?_; rintro e w' ⟨rfl, hb⟩)
        go_ret
        exact ⟨rfl, hbr.trans (hb.mono hbr.size)⟩
      · have he : k < st := hstep.1 ⟨hlt, hu⟩
        rw [hu] at key
        clear hstep hu STEP hTr hT
        go_wp2_with (go_at_call 36; refine key.mono ?_; rintro e w' ⟨rfl, hb⟩)
        exact ⟨⟨k + 1, by omega, by omega, by go_num, hbr.trans (hb.mono hbr.size)⟩, by simp [RowKit.intOf]; omega⟩
    · have he : ¬ k < st := fun h => hlt (hstep.2 h).1
      have : k = st := by omega
      subst this
      have hlti : ¬ (k : Int) < (s.size : Int) := by omega
      clear hstep STEP hTr hT
      go_wp2
      go_ret
      exact ⟨rfl, hbr⟩
end Go.Proofs.YtabofadjnbpjkabDoor
