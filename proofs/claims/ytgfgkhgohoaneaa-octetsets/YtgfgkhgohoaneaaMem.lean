/-
  The contract of Members: the bytes of a set, rising. No condition.
-/
import Derived.Test.YtgfgkhgohoaneaaFind
import Derived.Test.YtgfgkhgohoaneaaLow
namespace Go.Proofs.Ytgfgkhgohoaneaa
open Go.RowKit
/-- 'string(b)' of a slice that the call has grown, whatever it holds. -/
theorem string_ownL {P : Program} {wr : World} {base : Nat} {v : Value} {zs : List Int} (src e dst : TypeId) (h : wr.ownsRow base e 1 v zs.length (zs.map fun z => Value.int .u8 z)) (hs : P.underlying src = some (.slice e)) (he : P.underlying e = some (.int .u8)) (hd : P.underlying dst = some .string) :
    (convert src dst v).run P wr = .ok (.string (strOfNums zs)) wr := by
  obtain ⟨hl, h | ⟨g, cap, cur, rfl, hb, hg, hn, hc, hz, ht⟩⟩ := h
  · obtain ⟨rfl, hz⟩ := h
    have : zs = [] := List.eq_nil_of_length_eq_zero hz
    subst this
    exact run_convert_bytes_nil wr src e hs he 0 0 dst hd
  · refine run_convert_bytes_arg wr src e hs he g 0 zs.length cap zs rfl (fun i hi => ?_) dst hd
    have e1 : cur.toList[i]? = (zs.map fun z => Value.int .u8 z)[i]? := by
      rw [← ht, List.getElem?_take_of_lt (by omega)]
    have e2 : wr.cell? ⟨g, i, none⟩ = cur[i]? := by simp [World.cell?, hg]
    rw [Nat.zero_add, e2, ← Array.getElem?_toList, e1]
    simp [List.getD, List.getElem?_eq_getElem hi]
/-- The bytes below k that are in the set. -/
def mems (X : Nat → Int) (k : Nat) : List Int := ((List.range k).filter fun j => hasB X j).map fun (j : Nat) => (j : Int)
theorem mems_succ (X : Nat → Int) (k : Nat) : mems X (k + 1) = mems X k ++ (if hasB X k then [(k : Int)] else []) := by
  unfold mems
  rw [List.range_succ, List.filter_append, List.map_append]
  cases h : hasB X k <;> simp [h]
theorem mems_le (X : Nat → Int) (k : Nat) : (mems X k).length ≤ k := by
  unfold mems
  rw [List.length_map]
  exact Nat.le_trans (List.length_filter_le _ _) (by simp)
set_option maxRecDepth 100000 in
set_option maxHeartbeats 800000 in
theorem mem_any (X : Nat → Int) (w : World) : Calls Try.prog 24 #[.agg #[.int .u64 (X 0), .int .u64 (X 1), .int .u64 (X 2), .int .u64 (X 3)]] w fun e w' => e = .returned (.string (strOfNums (mems X 256))) ∧ Below w.heap.size w w' := by
  obtain ⟨i0, hi, hz0, hz1, hz2⟩ := info_parts info5
  go_enter Try.func24, Try.ntmps24
  go_wp2_with fail
  go_loopw [3, 5] (fun v i wr => ∃ k : Nat, k ≤ 256 ∧ i = .int .i64 k ∧ wr.ownsRow (w.heap.size + 1) 5 1 v (mems X k).length ((mems X k).map fun z => Value.int .u8 z) ∧ Below (w.heap.size + 1) (w.alloc (.cells #[.int .u64 (X 0), .int .u64 (X 1), .int .u64 (X 2), .int .u64 (X 3)] 32)) wr) (fun _ i _ => 256 - (intOf i).toNat)
  case atStart => exact ⟨0, by omega, rfl, World.ownsRow_nil _ _ _ _, Below.refl _ _⟩
  case round =>
    obtain ⟨k, hk, rfl, hown, hb⟩ := hrel
    have hsz : w.heap.size + 1 ≤ wr.heap.size := by have := hb.size; simp at this; omega
    by_cases hlt : k < 256
    · obtain ⟨hc0, hc1, hc2, hc3⟩ := box4 hb
      have hm := mems_le X k
      have HB : Hid (Below (w.heap.size + 1) (w.alloc (.cells #[.int .u64 (X 0), .int .u64 (X 1), .int .u64 (X 2), .int .u64 (X 3)] 32)) wr) := hb
      clear hb
      have HO : Hid (wr.ownsRow (w.heap.size + 1) 5 1 _ (mems X k).length ((mems X k).map fun z => Value.int .u8 z)) := hown
      clear hown
      cases hq : hasB X k
      · have hs : mems X (k + 1) = mems X k := by rw [mems_succ, hq]; simp
        have HS : Hid (mems X (k + 1) = mems X k) := hs
        clear hs
        go_wp2_with (go_at_call 20; refine (has_any X k _ (by omega)).mono ?_; rintro e w' ⟨rfl, rfl⟩)
        refine ⟨⟨k + 1, by omega, by go_num, ?_, HB.out.alloc (by omega) _⟩, by simp [intOf]; omega⟩
        rw [HS.out]
        exact HO.out.alloc _
      · have hs : mems X (k + 1) = mems X k ++ [(k : Int)] := by rw [mems_succ, hq]; simp
        have HS : Hid (mems X (k + 1) = mems X k ++ [(k : Int)]) := hs
        clear hs
        go_wp2_with (first | (go_at_call 20; refine (has_any X k _ (by omega)).mono ?_; rintro e w' ⟨rfl, rfl⟩) | (at_builtin; refine wpList_append_own _ rfl _ _ 27 rfl (w.heap.size + 1) 5 i0 (.int .u8 0) 1 1 Try.underlying27 hi hz0 hz1 hz2 rfl (by decide) _ _ _ rfl ((HO.out.alloc _).alloc _) ⟨wr.heap.size + 1, 0, none⟩ 1 1 [.int .u8 (k : Int)] rfl rfl (by simpa using cell_one_new (wr.alloc (.cells #[.int .u64 (X 0), .int .u64 (X 1), .int .u64 (X 2), .int .u64 (X 3)] 32)) (.int .u8 (k : Int)) 5) (by simp [Value.oneCell']) (by unfold maxLen; omega) (by omega) (by simp; omega) ?_))
        intro v' w1 hown' hgrow _
        have HR : Hid (w1.ownsRow (w.heap.size + 1) 5 1 v' (mems X (k + 1)).length ((mems X (k + 1)).map fun z => Value.int .u8 z)) := by
          unfold Hid
          rw [HS.out, List.length_append, List.map_append]
          exact hown'
        have hbel := ((HB.out.alloc (by omega) _).alloc (by simp; omega) _).grown hgrow (by simp; omega) (fun j hj => (HO.out.lt j hj).1)
        clear hown' hgrow
        go_wp2
        exact ⟨⟨k + 1, by omega, by go_num, HR.out, hbel⟩, by simp [intOf]; omega⟩
    · have e : k = 256 := by omega
      subst e
      have hcv := string_ownL (P := Try.prog) 27 5 9 hown Try.underlying27 Try.underlying5 Try.underlying9
      go_wp2
      go_ret
      exact ⟨rfl, ((Below.refl _ _).alloc (by simp) _).trans (hb.mono (by omega))⟩
end Go.Proofs.Ytgfgkhgohoaneaa
