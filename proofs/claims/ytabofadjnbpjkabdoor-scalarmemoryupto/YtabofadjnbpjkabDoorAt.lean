/-
  The contract of pieceAt: the piece that begins at a byte of a text. Conditions: the byte is one of the text; the library's two tables hold what their text lays.
-/
import Derived.Test.YtabofadjnbpjkabDoorPiece
namespace Go.Proofs.YtabofadjnbpjkabDoor
open Go.RowKit Go.Lib
/-- The size, the rune, the fault of the piece that begins at a byte. -/
def pSt (s : ByteArray) (k : Nat) : Nat := stN (s.size - k) (byt s k) (byt s (k + 1)) (byt s (k + 2)) (byt s (k + 3))
def pRu (s : ByteArray) (k : Nat) : Nat := ruN (s.size - k) (byt s k) (byt s (k + 1)) (byt s (k + 2)) (byt s (k + 3))
def pWr (s : ByteArray) (k : Nat) : Bool := wrN (s.size - k) (byt s k) (byt s (k + 1)) (byt s (k + 2)) (byt s (k + 3))
/-- The piece, as a struct's cells. -/
def pcs (s : ByteArray) (k : Nat) : Array Value := #[.int .i64 k, .int .i64 (pSt s k), .int .i32 (pRu s k), .bool (pWr s k)]
theorem pSt_le (s : ByteArray) (k : Nat) (h : k < s.size) : 1 ≤ pSt s k ∧ pSt s k ≤ 4 ∧ k + pSt s k ≤ s.size := by
  have := st_le (s.size - k) (byt s k) (byt s (k + 1)) (byt s (k + 2)) (byt s (k + 3)) (by omega)
  unfold pSt; omega
theorem decodeGo_tail (s : ByteArray) (k : Nat) (h : k < s.size) : decodeGo (s.extract k s.size) = decodeN (s.size - k) (byt s k) (byt s (k + 1)) (byt s (k + 2)) (byt s (k + 3)) := by
  have hz : (s.extract k s.size).size = s.size - k := by simp
  have h0 : ¬ (s.extract k s.size).size = 0 := by omega
  simp only [decodeGo, h0, if_false]
  rw [decode_at, hz]
  simp only [Nat.sub_zero, Nat.zero_add]
  have e := fun j => byt_tail s k j
  unfold byt at e ⊢
  rw [e 0, e 1, e 2, e 3]
  simp
theorem pRu_wrong (s : ByteArray) (k : Nat) (h : pWr s k = true) : pRu s k = 65533 := by unfold pWr at h; unfold pRu ruN; rw [h]; simp
theorem bcell {W w1 : World} (hb : Below W.heap.size W w1) : (∀ b o, b < W.heap.size → w1.cell? ⟨b, o, none⟩ = W.cell? ⟨b, o, none⟩) ∧ (∀ b o, b < W.heap.size → w1.frozen? ⟨b, o, none⟩ = W.frozen? ⟨b, o, none⟩) :=
  ⟨fun b o h => hb.cell (p := ⟨b, o, none⟩) h, fun b o h => hb.frozen (p := ⟨b, o, none⟩) h⟩
theorem tabs_below {w w' : World} (hT : Utf8Tabs 0 1 w) (hg : 1 < w.heap.size) (hb : Below w.heap.size w w') : Utf8Tabs 0 1 w' :=
  ⟨fun c hc => (hb.cell (p := ⟨0, c, none⟩) (by simp; omega)).trans (hT.1 c hc), fun i hi => ⟨(hb.cell (p := ⟨1, 2 * i, none⟩) hg).trans (hT.2 i hi).1, (hb.cell (p := ⟨1, 2 * i + 1, none⟩) hg).trans (hT.2 i hi).2⟩⟩
set_option maxRecDepth 100000 in
set_option maxHeartbeats 1000000 in
theorem pieceAt_any (s : ByteArray) (k : Nat) (w : World) (hs : s.size ≤ 140737488351232) (hk : k < s.size) (hT : Utf8Tabs 0 1 w) (hg : 1 < w.heap.size) :
    Calls Tryd.prog 48 #[.string s, .int .i64 k] w fun e w' => e = .returned (.agg (pcs s k)) ∧ Below w.heap.size w w' := by
  have hki : (k : Int) ≤ (s.size : Int) := by omega
  have l0 := byt_lt s k; have l1 := byt_lt s (k + 1); have l2 := byt_lt s (k + 2); have l3 := byt_lt s (k + 3)
  have hdec := decodeGo_tail s k hk
  have hTa := tabs_below hT hg ((Below.refl _ w).alloc (Nat.le_refl _) (.cells #[.int .i64 0, .int .i64 0, .int .i32 0, .bool false] 33))
  have key := Tryd.utf8_DecodeRuneInString (s.extract k s.size) (w.alloc (.cells #[.int .i64 0, .int .i64 0, .int .i32 0, .bool false] 33)) hTa
  rw [hdec] at key
  cases hw : pWr s k
  · have hr := dec_right (s.size - k) (byt s k) (byt s (k + 1)) (byt s (k + 2)) (byt s (k + 3)) (by omega) l0 l1 l2 l3 hw
    rw [hr] at key
    have hone : ¬ (pRu s k = 65533 ∧ pSt s k = 1) := fun h => by have := right_one _ _ _ _ _ hw h.2; unfold pRu at h; omega
    have e : pcs s k = #[.int .i64 k, .int .i64 (pSt s k), .int .i32 (pRu s k), .bool false] := by unfold pcs; rw [hw]
    rw [e]
    clear hdec hr hw e hT hTa l0 l1 l2 l3
    change Calls _ _ _ _ (fun e w' => e = .returned (.tuple #[.int .i32 (pRu s k), .int .i64 (pSt s k)]) ∧ _) at key
    obtain ⟨R, hR⟩ : ∃ R, pRu s k = R := ⟨_, rfl⟩
    obtain ⟨S, hS⟩ : ∃ S, pSt s k = S := ⟨_, rfl⟩
    rw [hR, hS] at key hone ⊢
    by_cases hc : R = 65533
    · have hc1 : ((R : Int) == 65533) = true := by simp; omega
      have hc2 : ((S : Int) == 1) = false := beq_false_of_ne (by omega)
      clear hR hS
      go_enter Tryd.func48, Tryd.ntmps48
      go_wp2_with (go_at_call 58; refine key.mono ?_; rintro e w' ⟨rfl, hb⟩; obtain ⟨hbc, hbf⟩ := bcell hb)
      exact bodyPost_ret (v := .agg #[.int .i64 k, .int .i64 S, .int .i32 65533, .bool false]) (by simp [results, Tryd.results48, go_sem, hbc]) rfl ⟨by rw [hc]; rfl, ((((((Below.refl _ w).alloc (Nat.le_refl _) _).trans (hb.mono (by simp))).setCell (by simp) _).setCell (by simp) _).setCell (by simp) _).setCell (by simp) _⟩
    · have hc1 : ((R : Int) == 65533) = false := beq_false_of_ne (by omega)
      clear hR hS
      go_enter Tryd.func48, Tryd.ntmps48
      go_wp2_with (go_at_call 58; refine key.mono ?_; rintro e w' ⟨rfl, hb⟩; obtain ⟨hbc, hbf⟩ := bcell hb)
      exact bodyPost_ret (v := .agg #[.int .i64 k, .int .i64 S, .int .i32 R, .bool false]) (by simp [results, Tryd.results48, go_sem, hbc]) rfl ⟨rfl, ((((((Below.refl _ w).alloc (Nat.le_refl _) _).trans (hb.mono (by simp))).setCell (by simp) _).setCell (by simp) _).setCell (by simp) _).setCell (by simp) _⟩
  · have hr := dec_wrong (s.size - k) (byt s k) (byt s (k + 1)) (byt s (k + 2)) (byt s (k + 3)) (by omega) l0 l1 l2 l3 hw
    rw [hr] at key
    have e : pcs s k = #[.int .i64 k, .int .i64 (pSt s k), .int .i32 65533, .bool true] := by unfold pcs; rw [hw, pRu_wrong s k hw]; rfl
    rw [e]
    have hz : (s.extract k s.size).size = s.size - k := by simp
    have hws : wrN (s.extract k s.size).size (byt (s.extract k s.size) 0) (byt (s.extract k s.size) 1) (byt (s.extract k s.size) 2) (byt (s.extract k s.size) 3) = true := by
      rw [hz, byt_tail, byt_tail, byt_tail, byt_tail]; exact hw
    have hse : stN (s.extract k s.size).size (byt (s.extract k s.size) 0) (byt (s.extract k s.size) 1) (byt (s.extract k s.size) 2) (byt (s.extract k s.size) 3) = pSt s k := by
      rw [hz, byt_tail, byt_tail, byt_tail, byt_tail]; rfl
    obtain ⟨S, hS⟩ : ∃ S, pSt s k = S := ⟨_, rfl⟩
    rw [hS] at hse ⊢
    have key2 := fun w1 (hT1 : Utf8Tabs 0 1 w1) (hg1 : 1 < w1.heap.size) => wrongSize_any (s.extract k s.size) w1 (by omega) (by omega) hT1 hg1 hws
    rw [hse] at key2
    have KEY2 : Hid (∀ w1, Utf8Tabs 0 1 w1 → 1 < w1.heap.size → Calls Tryd.prog 59 #[.string (s.extract k s.size)] w1 fun e w' => e = .returned (.int .i64 S) ∧ Below w1.heap.size w1 w') := key2
    have HTA : Hid (Utf8Tabs 0 1 (w.alloc (.cells #[.int .i64 0, .int .i64 0, .int .i32 0, .bool false] 33))) := hTa
    clear hdec hr hw e hT hTa l0 l1 l2 l3 key2 hws hse hS hz
    go_enter Tryd.func48, Tryd.ntmps48
    go_wp2_with (go_at_call 58; refine key.mono ?_; rintro e w' ⟨rfl, hb⟩)
    have hg1 : 1 < w'.heap.size := by have := hb.size; simp at this; omega
    refine (KEY2.out w' (tabs_below HTA.out (by simp; omega) hb) hg1).mono ?_
    rintro e w2 ⟨rfl, hb2⟩
    have hb3 := hb.trans (hb2.mono hb.size)
    obtain ⟨hbc, hbf⟩ := bcell hb3
    clear hb hb2
    go_wp2
    exact bodyPost_ret (v := .agg #[.int .i64 k, .int .i64 S, .int .i32 65533, .bool true]) (by simp [results, Tryd.results48, go_sem, hbc]) rfl ⟨rfl, ((((((Below.refl _ w).alloc (Nat.le_refl _) _).trans (hb3.mono (by simp))).setCell (by simp) _).setCell (by simp) _).setCell (by simp) _).setCell (by simp) _⟩
end Go.Proofs.YtabofadjnbpjkabDoor
