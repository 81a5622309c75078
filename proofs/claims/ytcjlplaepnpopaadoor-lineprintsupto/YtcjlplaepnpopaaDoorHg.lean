/-
  isLeftWhole: whether a text has none of some bytes and no blank at its ends.
-/
import Derived.Test.YtcjlplaepnpopaaDoorHf
import Derived.LoopN
import Derived.OwnWalk
import Derived.WalkSmall
import Derived.BigQuiet
import Derived.Deep.QuietTactic
import Derived.KernelRfl
namespace Go.Proofs.YtcjlplaepnpopaaDoor
open Go.RowKit
theorem asc_list {o : ByteArray} (hA : Asc o) (j : Nat) (b : UInt8) (h : o.data.toList[j]? = some b) : b.toNat < 128 := by
  obtain ⟨hj, e⟩ := List.getElem?_eq_some_iff.1 h
  obtain ⟨k, hk, e2⟩ := mem_byt.1 (show b ∈ o.data.toList by rw [← e]; exact List.getElem_mem _)
  rw [← e2]
  exact hA k hk
theorem idxAny_any (s o : ByteArray) (w : World) (hs : s.size < 4294967281) (h2 : 2 ≤ o.size) (ho : o.size ≤ 1000) (hA : Asc o) :
    Calls Tryd.prog 67 #[.string s, .string o] w fun e w' => ∃ n : Int, e = .returned (.int .i64 n) ∧ Hid (decide (0 ≤ n) = hasB s o) ∧ Hid (Below w.heap.size w w') := by
  by_cases h8 : s.size ≤ 8
  · exact (idxAny_short s o w h8 h2 ho hA).mono fun e w' h => by obtain ⟨⟨n, h1, h2⟩, h3⟩ := h; exact ⟨n, h1, h2, h3⟩
  · refine (Tryd.strings_IndexAny_long (zero_of_info i120).1 s o w h2 (by omega) hs (by omega) (asc_list hA)).mono fun e w' h => ?_
    obtain ⟨h1, rfl⟩ := h
    exact ⟨_, h1, indexAny_has s o, ((Below.refl _ _).alloc (Nat.le_refl _) _).alloc (by simp) _⟩
theorem contAny_any (s o : ByteArray) (w : World) (hs : s.size < 4294967281) (h2 : 2 ≤ o.size) (ho : o.size ≤ 1000) (hA : Asc o) :
    Calls Tryd.prog 52 #[.string s, .string o] w fun e w' => e = .returned (.bool (hasB s o)) ∧ Hid (Below w.heap.size w w') := by
  have k := idxAny_any s o w hs h2 ho hA
  go_enter Tryd.func52, Tryd.ntmps52
  go_wp2_with (go_at_call 67; refine k.mono ?_)
  rintro e w2 ⟨n, rfl, hn, hb⟩
  clear k
  go_wp2
  exact bodyPost_ret (v := .bool (decide (0 ≤ n))) (by simp [results, Tryd.results52, go_sem]) rfl ⟨by rw [hn.out], hb⟩
theorem same_text (t s : ByteArray) : (t.toList == s.toList) = decide (t = s) := by
  rw [Lib.toList_data, Lib.toList_data, Bool.eq_iff_iff, beq_iff_eq, decide_eq_true_iff]
  constructor
  · intro h
    cases t; cases s
    simp only at h
    congr 1
    exact Array.toList_inj.1 h
  · rintro rfl; rfl
/-- Whether a text has none of some bytes, and no blank at its ends. -/
def lwB (s o : ByteArray) : Bool := !hasB s o && okE s
set_option maxRecDepth 100000 in
set_option maxHeartbeats 1000000 in
theorem leftWhole_any (s o : ByteArray) (w : World) (hs : s.size < 4294967281) (h2 : 2 ≤ o.size) (ho : o.size ≤ 1000) (hA : Asc o) :
    Calls Tryd.prog 42 #[.string s, .string o] w fun e w' => e = .returned (.bool (lwB s o)) ∧ Hid (Below w.heap.size w w') := by
  have k := contAny_any s o w hs h2 ho hA
  have HT : Hid (∀ w, Calls Tryd.prog 53 #[.string s] w fun e w' => (∃ t, e = .returned (.string t) ∧ (t = s ↔ okE s = true)) ∧ Below w.heap.size w w') := fun w => trimmed_any s w (by omega)
  cases q : hasB s o with
  | true =>
    have HQ : Hid (lwB s o = false) := by unfold Hid lwB; rw [q]; rfl
    rw [q] at k
    clear q
    go_enter Tryd.func42, Tryd.ntmps42
    go_wp2_with (go_at_call 52; refine k.mono ?_)
    rintro e w2 ⟨rfl, hb⟩
    clear k
    go_wp2
    exact bodyPost_ret (v := .bool false) (by simp [results, Tryd.results42, go_sem]) rfl ⟨by rw [HQ.out], hb⟩
  | false =>
    have HQ : Hid (lwB s o = okE s) := by unfold Hid lwB; rw [q]; rfl
    rw [q] at k
    clear q
    go_enter Tryd.func42, Tryd.ntmps42
    go_wp2_with (go_at_call 52; refine k.mono ?_)
    rintro e w2 ⟨rfl, hb⟩
    clear k
    go_wp2_with (go_at_call 53; refine (HT.out w2).mono ?_)
    rintro e w3 ⟨⟨t, rfl, ht⟩, hb2⟩
    have HB : Hid (Below w.heap.size w w3) := hb.out.trans (hb2.mono hb.out.size)
    have hst : (t.toList == s.toList) = okE s := by
      rw [same_text, Bool.eq_iff_iff, decide_eq_true_iff]
      exact ht
    clear ht hb hb2
    go_wp2
    exact bodyPost_ret (v := .bool (okE s)) (by simp [results, Tryd.results42, go_sem]) rfl ⟨by rw [HQ.out], HB⟩
end Go.Proofs.YtcjlplaepnpopaaDoor
