/-
  The walk of the law ScalarFeeds: it returns true and turns nothing that was there. Conditions: each list has at most about a million texts, and they have together at most about a million bytes; the library's two tables hold what their text lays.
-/
import Derived.Test.YtabofadjnbpjkabDoorFg
namespace Go.Proofs.YtabofadjnbpjkabDoor
open Go.RowKit Go.Lib
set_option maxRecDepth 100000 in
set_option maxHeartbeats 4000000 in
theorem lawF (one two : List ByteArray) (v1 v2 : Value) (w : World) (h1 : StrsA w v1 one) (h2 : StrsA w v2 two) (n1 : one.length ≤ 1048576) (n2 : two.length ≤ 1048576) (t1 : tot one ≤ 1048576) (t2 : tot two ≤ 1048576) (hT : Utf8Tabs 0 1 w) (hg : 2 ≤ w.heap.size) :
    Calls Tryd.prog 4 #[v1, v2] w fun e w' => e = .returned (.bool true) ∧ Below w.heap.size w w' := by
  have H1 : Hid (StrsA w v1 one) := h1
  have H2 : Hid (StrsA w v2 two) := h2
  have HT : Hid (Utf8Tabs 0 1 w) := hT
  have TB : Hid (∀ W, Below w.heap.size w W → Utf8Tabs 0 1 W) := fun W hb => tabs_below hT (by omega) hb
  obtain ⟨a1, c1, rfl, r1⟩ := h1
  obtain ⟨a2, c2, rfl, r2⟩ := h2
  clear r1 r2 hT
  go_enter Tryd.func4, Tryd.ntmps4
  go_wp2_with (first | (go_at_call 16; refine (newDecoder_any _).mono ?_; rintro e w' ⟨rfl, rfl⟩))
  have B0 : Below w.heap.size w (w.alloc (.cells #[.string ByteArray.empty] 67)) := (Below.refl _ w).alloc (Nat.le_refl _) _
  refine (awake_any _ (TB.out _ B0) (by simp; omega)).mono ?_
  rintro e w1 ⟨rfl, b1⟩
  have z1 := b1.size
  simp only [World.size_alloc] at z1
  have B1 : Below w.heap.size w w1 := B0.trans (b1.mono (by simp))
  have d1 : DecAt w1 w.heap.size ⟨#[]⟩ := (b1.block _ (by simp)).trans (World.alloc_heap_new _ _)
  have k1 := fed_any one _ w.heap.size w w1 H1.out n1 t1 B1 (Nat.le_refl _) d1 HT.out hg
  clear b1 d1 B1 B0
  go_wp2_with (go_at_call 17; refine k1.mono ?_)
  first | rintro e w2 rfl d2 B2 | rintro e w2 ⟨rfl, d2, B2⟩
  have k2 := fed_any two _ w.heap.size w w2 H2.out n2 t2 B2 (Nat.le_refl _) d2 HT.out hg
  clear k1 d2 B2
  go_wp2_with (go_at_call 17; refine k2.mono ?_)
  first | rintro e w3 rfl d3 B3 | rintro e w3 ⟨rfl, d3, B3⟩
  have HB : Hid (Below w.heap.size w w3) := B3
  clear k2 d3 B3
  go_wp2
  go_loopw [26] (fun i wr => ∃ k : Nat, i = .int .i64 k ∧ k ≤ one.length ∧ Hid (Below w.heap.size w wr)) (fun i _ => one.length - (RowKit.intOf i).toNat)
  case atStart => exact ⟨0, rfl, Nat.zero_le _, HB⟩
  case round =>
    clear HB
    obtain ⟨k, rfl, hk, HI⟩ := hrel
    have hwz := HI.out.size
    by_cases l1 : k < one.length
    · have l1i : (k : Int) < (one.length : Int) := by omega
      obtain ⟨a', c', e, h⟩ := H1.out
      cases e
      obtain ⟨g, o, rfl, hgl, hc⟩ := h (by omega)
      have hk1 : wr.cell? ⟨g, o + k, none⟩ = some (.string (one.getD k ⟨#[]⟩)) := (HI.out.cell (p := ⟨g, o + k, none⟩) hgl).trans (hc k l1)
      obtain ⟨P, hP⟩ : ∃ P, one.getD k ⟨#[]⟩ = P := ⟨_, rfl⟩
      rw [hP] at hk1
      clear h hc hP
      go_wp2_with (go_at_call 18; refine (feed_nil _ _).mono ?_)
      first | rintro e w4 rfl b4 | rintro e w4 ⟨rfl, b4⟩
      have HF : Hid (Below w.heap.size w w4) := HI.out.trans (b4.mono hwz)
      clear b4 hk1
      go_wp2
      exact ⟨⟨k + 1, by go_num, by omega, HF⟩, by simp [RowKit.intOf]; omega⟩
    · have l1i : ¬ (k : Int) < (one.length : Int) := by omega
      go_wp2_with (first | (go_at_call 19; refine (end_nil _).mono ?_; rintro e w' ⟨rfl, rfl⟩) | (go_at_call 20; refine (held_nil _).mono ?_; rintro e w' ⟨rfl, rfl⟩))
      go_ret
      exact ⟨rfl, HI.out⟩
end Go.Proofs.YtabofadjnbpjkabDoor
