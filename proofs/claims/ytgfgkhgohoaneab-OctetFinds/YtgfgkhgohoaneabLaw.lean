/-
  The walk of the law OctetFinds: it returns true and turns nothing that was there. Conditions: the text is no longer than a text can be, and each word fits 64 bits.
-/
import Derived.Test.YtgfgkhgohoaneabRfind
import Derived.Test.YtgfgkhgohoaneabUnw
import Derived.Deep.RegionHeld3
import Derived.WalkSmall
import Derived.KernelRfl
namespace Go.Proofs.Ytgfgkhgohoaneab
open Go.RowKit
theorem row4 (X : Nat → Int) : rowOf .u64 4 X = #[.int .u64 (X 0), .int .u64 (X 1), .int .u64 (X 2), .int .u64 (X 3)] := by
  rfl
theorem unw_is (X : Nat → Int) (w : World) : Calls Try.prog 4 #[.agg #[.int .u64 (X 0), .int .u64 (X 1), .int .u64 (X 2), .int .u64 (X 3)]] w fun e w' => e = .returned (.agg (rowOf .u8 256 (bitv X))) ∧ Below w.heap.size w w' := by
  have := unw_any X w
  rw [row4] at this
  exact this
theorem rfind_cs (s : ByteArray) (f : Nat → Int) (p : Nat → Bool) (fr : Int) (cs : List Value) (w : World) (hs : s.size ≤ maxLen) (hp : ∀ b, b < 256 → (f b == 1) = p b) (hc : rowOf .u8 256 f = cs.toArray) : Calls Try.prog 7 #[.string s, .agg cs.toArray, .int .i64 fr] w fun e w' => e = .returned (.int .i64 (firstOf (fun j => p (byteAt s j)) s.size fr)) ∧ Below w.heap.size w w' := by
  have := rfind_is s f p fr w hs hp
  rw [hc] at this
  exact this
/-- Each word fits 64 bits. -/
def Words (X : Nat → Int) : Prop := ∀ i, 0 ≤ X i ∧ X i ≤ 18446744073709551615
theorem bitv_has {X : Nat → Int} (hX : Words X) (b : Nat) : (bitv X b == 1) = hasB X b := by
  unfold bitv hasB
  obtain ⟨h0, h1⟩ := hX (b / 64)
  generalize X (b / 64) = x at *
  have hp : (0 : Int) < 2 ^ (b % 64) := Int.pow_pos (by omega)
  have a0 : 0 ≤ x / 2 ^ (b % 64) := Int.ediv_nonneg h0 (by omega)
  have a1 : x / 2 ^ (b % 64) ≤ x := Int.ediv_le_self _ h0
  rw [and_one_u64 _ a0 (by omega)]
  have e : x / 2 ^ (b % 64) % 2 % 256 = x / 2 ^ (b % 64) % 2 := by omega
  rw [e]
/-- What the law's own memory holds: the set's words in block b, its bytes in block m; below it nothing has turned. -/
theorem holds_below {w v v' : World} {X : Nat → Int} {b m : Nat} {cs : List Value}
    (h : v.cell? ⟨b, 0, none⟩ = some (.int .u64 (X 0)) ∧ v.cell? ⟨b, 1, none⟩ = some (.int .u64 (X 1)) ∧ v.cell? ⟨b, 2, none⟩ = some (.int .u64 (X 2)) ∧ v.cell? ⟨b, 3, none⟩ = some (.int .u64 (X 3)) ∧ v.rangeAt m 0 cs ∧ m < v.heap.size ∧ Below w.heap.size w v)
    (hb : Below v.heap.size v v') :
    v'.cell? ⟨b, 0, none⟩ = some (.int .u64 (X 0)) ∧ v'.cell? ⟨b, 1, none⟩ = some (.int .u64 (X 1)) ∧ v'.cell? ⟨b, 2, none⟩ = some (.int .u64 (X 2)) ∧ v'.cell? ⟨b, 3, none⟩ = some (.int .u64 (X 3)) ∧ v'.rangeAt m 0 cs ∧ m < v'.heap.size ∧ Below w.heap.size w v' := by
  obtain ⟨h0, h1, h2, h3, hr, hm, hi⟩ := h
  have lb : b < v.heap.size := block_lt_of_cell h0
  refine ⟨?_, ?_, ?_, ?_, ?_, ?_, ?_⟩
  · rw [hb.cell lb]; exact h0
  · rw [hb.cell lb]; exact h1
  · rw [hb.cell lb]; exact h2
  · rw [hb.cell lb]; exact h3
  · intro j u hu
    rw [hb.cell hm]; exact hr j u hu
  · have := hb.size; omega
  · exact hi.trans (hb.mono hi.size)
theorem holds_drew {w v : World} {X : Nat → Int} {b m : Nat} {cs : List Value}
    (h : v.cell? ⟨b, 0, none⟩ = some (.int .u64 (X 0)) ∧ v.cell? ⟨b, 1, none⟩ = some (.int .u64 (X 1)) ∧ v.cell? ⟨b, 2, none⟩ = some (.int .u64 (X 2)) ∧ v.cell? ⟨b, 3, none⟩ = some (.int .u64 (X 3)) ∧ v.rangeAt m 0 cs ∧ m < v.heap.size ∧ Below w.heap.size w v) :
    v.drew.cell? ⟨b, 0, none⟩ = some (.int .u64 (X 0)) ∧ v.drew.cell? ⟨b, 1, none⟩ = some (.int .u64 (X 1)) ∧ v.drew.cell? ⟨b, 2, none⟩ = some (.int .u64 (X 2)) ∧ v.drew.cell? ⟨b, 3, none⟩ = some (.int .u64 (X 3)) ∧ v.drew.rangeAt m 0 cs ∧ m < v.drew.heap.size ∧ Below w.heap.size w v.drew :=
  ⟨h.1, h.2.1, h.2.2.1, h.2.2.2.1, h.2.2.2.2.1, h.2.2.2.2.2.1, h.2.2.2.2.2.2.drew⟩
theorem holds_end {w v : World} {X : Nat → Int} {b m : Nat} {cs : List Value}
    (h : v.cell? ⟨b, 0, none⟩ = some (.int .u64 (X 0)) ∧ v.cell? ⟨b, 1, none⟩ = some (.int .u64 (X 1)) ∧ v.cell? ⟨b, 2, none⟩ = some (.int .u64 (X 2)) ∧ v.cell? ⟨b, 3, none⟩ = some (.int .u64 (X 3)) ∧ v.rangeAt m 0 cs ∧ m < v.heap.size ∧ Below w.heap.size w v) : Below w.heap.size w v := h.2.2.2.2.2.2
attribute [local go_sem] rowOf_size rowOf_set isRow_at isRow_past rowIn_at rowIn_past setRow_at setRow_past
attribute [local go_sem] st_at
set_option maxRecDepth 100000 in
set_option maxHeartbeats 400000 in
theorem law (s : ByteArray) (X : Nat → Int) (fr : Int) (w : World) (hs : s.size ≤ maxLen) (hX : Words X) : Calls Try.prog 3 #[.string s, .agg #[.int .u64 (X 0), .int .u64 (X 1), .int .u64 (X 2), .int .u64 (X 3)], .int .i64 fr] w fun e w' => e = .returned (.bool true) ∧ Below w.heap.size w w' := by
  have hs' := hs
  unfold maxLen at hs'
  obtain ⟨hz, hi⟩ := zero_of_info info26
  clear hi
  go_enter Try.func3, Try.ntmps3
  go_wp2_with fail
  refine (unw_is X _).mono ?_
  rintro e w1 ⟨rfl, hb1⟩
  obtain ⟨hc0, hc1, hc2, hc3⟩ := box4 (by simpa using hb1)
  go_wp2_with fail
  have hz1 : w.heap.size < w1.heap.size := by have := hb1.size; simp at this; omega
  go_loop [8, 9] (fun t i => ∃ k : Nat, k ≤ s.size ∧ i = .int .i64 k ∧ t = .bool ((List.range k).all fun j => hasB X (byteAt s j))) (fun _ i => s.size - (intOf i).toNat)
  case atStart => exact ⟨0, by omega, rfl, rfl⟩
  case round =>
    obtain ⟨k, hk, rfl, rfl⟩ := hrel
    by_cases hlt : k < s.size
    · have HB : Hid (byteAt s k = s[k].toNat) := byteAt_eq s k hlt
      have HR : Hid (((List.range (k + 1)).all fun j => hasB X (byteAt s j)) = (((List.range k).all fun j => hasB X (byteAt s j)) && hasB X (byteAt s k))) := by
        unfold Hid
        rw [List.range_succ, List.all_append]
        simp
      have hbd : (s[k].toNat : Int) < 256 := by have := UInt8.toNat_lt s[k]; omega
      have hget := rowOf_get .u8 256 (bitv X) s[k].toNat (UInt8.toNat_lt _)
      cases hq : (List.range k).all fun j => hasB X (byteAt s j)
      · go_wp2
        refine ⟨⟨k + 1, by omega, by go_num, congrArg Value.bool ?_⟩, by simp [intOf]; omega⟩
        rw [HR.out, hq, Bool.false_and]
      · go_wp2
        refine ⟨⟨k + 1, by omega, by go_num, congrArg Value.bool ?_⟩, by simp [intOf]; omega⟩
        rw [HR.out, hq, Bool.true_and, HB.out]
        exact bitv_has hX _
    · have e : k = s.size := by omega
      subst e
      generalize hq : ((List.range s.size).all fun j => hasB X (byteAt s j)) = q at *
      have HQ : Hid (((List.range s.size).all fun j => hasB X (byteAt s j)) = q) := hq
      clear hq
      go_wp2_with fail
      obtain ⟨V, hV⟩ : ∃ V, w1.alloc (.cells (rowOf .u8 256 (bitv X)) 26) = V := ⟨_, rfl⟩
      obtain ⟨cs, hcs⟩ : ∃ cs : List Value, rowOf .u8 256 (bitv X) = cs.toArray := ⟨(rowOf .u8 256 (bitv X)).toList, by simp⟩
      have hlen : cs.length = 256 := by have := rowOf_size .u8 256 (bitv X); rw [hcs] at this; simpa using this
      have HC : Hid (rowOf .u8 256 (bitv X) = cs.toArray) := hcs
      have hH : V.cell? ⟨w.heap.size, 0, none⟩ = some (.int .u64 (X 0)) ∧ V.cell? ⟨w.heap.size, 1, none⟩ = some (.int .u64 (X 1)) ∧ V.cell? ⟨w.heap.size, 2, none⟩ = some (.int .u64 (X 2)) ∧ V.cell? ⟨w.heap.size, 3, none⟩ = some (.int .u64 (X 3)) ∧ V.rangeAt w1.heap.size 0 cs ∧ w1.heap.size < V.heap.size ∧ Below w.heap.size w V := by
        rw [← hV]
        refine ⟨?_, ?_, ?_, ?_, ?_, ?_, ?_⟩
        · rw [World.cell?_alloc_past _ _ _ hz1]; exact hc0
        · rw [World.cell?_alloc_past _ _ _ hz1]; exact hc1
        · rw [World.cell?_alloc_past _ _ _ hz1]; exact hc2
        · rw [World.cell?_alloc_past _ _ _ hz1]; exact hc3
        · intro j u hu
          rw [World.cell?_alloc_at _ _ _ _ (by omega), hcs]
          simpa using hu
        · simp
        · exact (((Below.refl _ _).alloc (by simp) _).trans (hb1.mono (by simp))).alloc (by omega) _
      rw [hV]
      clear hV hc0 hc1 hc2 hc3 hcs hz hb1
      have hu26 := Try.underlying26
      have hi26 : (Try.prog.info? 26).map (·.size) = some cs.length := by rw [hlen]; kernel_rfl
      go_region_held3 (fun v => v.cell? ⟨w.heap.size, 0, none⟩ = some (.int .u64 (X 0)) ∧ v.cell? ⟨w.heap.size, 1, none⟩ = some (.int .u64 (X 1)) ∧ v.cell? ⟨w.heap.size, 2, none⟩ = some (.int .u64 (X 2)) ∧ v.cell? ⟨w.heap.size, 3, none⟩ = some (.int .u64 (X 3)) ∧ v.rangeAt w1.heap.size 0 cs ∧ w1.heap.size < v.heap.size ∧ Below w.heap.size w v)
        (first
          | exact holds_drew hH
          | exact holds_below (X := X) (cs := cs) (by assumption) hb)
        (first
          | (go_at_call 5; refine (awake_any _).mono ?_; rintro e w' ⟨rfl, rfl⟩)
          | (go_at_call 6; refine (find_is s X fr _ hs).mono ?_; rintro e w' ⟨rfl, hb⟩)
          | (go_at_call 7; refine (rfind_cs s (bitv X) (hasB X) fr cs _ hs (fun b _ => bitv_has hX b) HC.out).mono ?_; rintro e w' ⟨rfl, hb⟩)
          | (go_at_call 8; refine (all_is s X _ hs).mono ?_; rintro e w' ⟨rfl, hb⟩))
      have hfin := holds_end ‹_›
      go_wp2
      go_ret
      exact ⟨by rw [HQ.out]; simp, hfin⟩
end Go.Proofs.Ytgfgkhgohoaneab
