/-
  Print: a line as a text.
-/
import Derived.Test.YtcjlplaepnpopaaDoorHh
import Derived.LoopN
import Derived.OwnWalk
import Derived.WalkSmall
import Derived.BigQuiet
import Derived.Deep.QuietTactic
import Derived.KernelRfl
namespace Go.Proofs.YtcjlplaepnpopaaDoor
open Go.RowKit
/-- The fields of a line, joined, the first k of them. -/
def jn (L : List ByteArray) : Nat → ByteArray
  | 0 => ⟨#[]⟩
  | k + 1 => (if 0 < k then jn L k ++ ⟨#[59, 32]⟩ else jn L k) ++ L.getD k ⟨#[]⟩
def prT (L : List ByteArray) (note : ByteArray) : ByteArray := if note.size = 0 then jn L L.length ++ ⟨#[10]⟩ else (jn L L.length ++ (⟨#[32, 35, 32]⟩ ++ note)) ++ ⟨#[10]⟩
def prA (L : List ByteArray) (note : ByteArray) : Ending := if mayB L note = true then .returned (.tuple #[.string (prT L note), .int .i64 0]) else .returned (.tuple #[.string ⟨#[]⟩, .int .i64 1])
theorem list_app (a b : ByteArray) : (a ++ b).data.toList = a.data.toList ++ b.data.toList := by
  rw [ByteArray.data_append, Array.toList_append]
theorem join_snoc (xs : List (List UInt8)) (x sep : List UInt8) (h : xs ≠ []) : Lib.join (xs ++ [x]) sep = Lib.join xs sep ++ sep ++ x := by
  unfold Lib.join
  induction xs with
  | nil => exact absurd rfl h
  | cons y ys ih =>
    cases ys with
    | nil => simp [List.intercalate, List.intersperse]
    | cons z zs =>
      have h2 := ih (by simp)
      simp [List.intercalate, List.intersperse] at h2 ⊢
      rw [h2]
theorem jn_join (L : List ByteArray) : ∀ k, k ≤ L.length → (jn L k).data.toList = Lib.join ((L.take k).map (·.data.toList)) [59, 32]
  | 0, _ => rfl
  | k + 1, h => by
    have e : L.take (k + 1) = L.take k ++ [L[k]'h] := by rw [List.take_add_one, List.getElem?_eq_getElem h]; rfl
    have e2 : L.getD k ⟨#[]⟩ = L[k]'h := by simp [List.getD, List.getElem?_eq_getElem h]
    have ih := jn_join L k (by omega)
    rw [jn, e, List.map_append, e2]
    by_cases q : 0 < k
    · rw [if_pos q, list_app, list_app, ih]
      show _ = Lib.join (_ ++ [(L[k]'h).data.toList]) _
      rw [join_snoc _ _ _ (by
        intro h2
        have h3 := congrArg List.length h2
        simp at h3
        rcases h3 with h3 | h3
        · omega
        · rw [h3] at h; simp at h)]
    · obtain rfl : k = 0 := by omega
      rw [if_neg q, list_app, ih]
      simp [Lib.join, List.intercalate]
theorem jn_all (L : List ByteArray) : (⟨(Lib.join (L.map (·.data.toList)) [59, 32]).toArray⟩ : ByteArray) = jn L L.length := by
  have h := jn_join L L.length (Nat.le_refl _)
  rw [List.take_length] at h
  rw [← h]
theorem jn_size (L : List ByteArray) (M : Nat) (hM : ∀ x ∈ L, x.size ≤ M) : ∀ k, k ≤ L.length → (jn L k).size ≤ k * (M + 2)
  | 0, _ => Nat.zero_le _
  | k + 1, h => by
    have ih := jn_size L M hM k (by omega)
    have e2 : L.getD k ⟨#[]⟩ = L[k]'h := by simp [List.getD, List.getElem?_eq_getElem h]
    have h2 : (L.getD k ⟨#[]⟩).size ≤ M := by rw [e2]; exact hM _ (List.getElem_mem _)
    rw [jn, ByteArray.size_append, Nat.succ_mul]
    split
    · rw [ByteArray.size_append]
      have : (⟨#[59, 32]⟩ : ByteArray).size = 2 := rfl
      omega
    · omega
set_option maxRecDepth 100000 in
set_option maxHeartbeats 1000000 in
theorem print_any (num : Int) (v : Value) (L : List ByteArray) (note : ByteArray) (w : World) (hv : RdT w v L) (hL : L.length ≤ 2000000) (hs : ∀ x ∈ L, x.size ≤ 2000000) (hn : note.size < 4294967281) :
    Calls Tryd.prog 14 #[.agg #[.int .i64 num, v, .string note]] w fun e w' => e = prA L note ∧ Hid (Below w.heap.size w w') := by
  have k26 := fun w' (hb : RdT w' v L) => mayBe_any num v L note w' hb (by omega) (fun x hx => by have := hs x hx; omega) hn
  have HV : Hid (RdT w v L) := hv
  obtain ⟨a, c, rfl, hle, hc⟩ := hv
  have hB1 : Below w.heap.size w (w.alloc (.cells #[.int .i64 num, .slice a L.length c, .string note] 46)) := (Below.refl _ _).alloc (Nat.le_refl _) _
  have k26' := k26 _ (HV.out.below hB1)
  have HB1 : Hid (Below w.heap.size w (w.alloc (.cells #[.int .i64 num, .slice a L.length c, .string note] 46))) := hB1
  clear k26 hB1
  cases q : mayB L note with
  | false =>
    have HR : Hid (prA L note = .returned (.tuple #[.string ⟨#[]⟩, .int .i64 1])) := by unfold Hid prA; rw [q]; rfl
    rw [q] at k26'
    clear hc
    go_enter Tryd.func14, Tryd.ntmps14
    go_wp2_with (go_at_call 26; refine k26'.mono ?_)
    rintro e w2 ⟨rfl, hb⟩
    have HB2 : Hid (Below w.heap.size w w2) := HB1.out.trans (hb.out.mono HB1.out.size)
    clear k26' hb
    go_wp2
    exact bodyPost_ret (v := .tuple #[.string ⟨#[]⟩, .int .i64 1]) (by simp [results, Tryd.results14, go_sem]) rfl ⟨by rw [HR.out], HB2⟩
  | true =>
    have HR : Hid (prA L note = .returned (.tuple #[.string (prT L note), .int .i64 0])) := by unfold Hid prA; rw [q]; rfl
    have h0 : L.length ≠ 0 := by
      intro h
      unfold mayB emL1 at q
      rw [decide_eq_true h] at q
      cases q
    rw [q] at k26'
    obtain ⟨g, off, rfl, hd⟩ := hc (by omega)
    have hg : g < w.heap.size := by simpa using World.block_lt_of_cell? w _ (hd 0 (by omega))
    have HJ : Hid (∀ w2, Below w.heap.size w w2 → Calls Tryd.prog 27 #[.slice (some ⟨g, off, none⟩) L.length c, .string ⟨#[59, 32]⟩] w2 fun e w' => e = .returned (.string (jn L L.length)) ∧ Below w2.heap.size w2 w') := fun w2 hb => by
      have h := Tryd.strings_Join g off c L ⟨#[59, 32]⟩ w2 (fun j x hx => by
        obtain ⟨hj, e⟩ := List.getElem?_eq_some_iff.1 hx
        have := hd j hj
        rw [show L.getD j ⟨#[]⟩ = x by simp [List.getD, List.getElem?_eq_getElem hj, e]] at this
        exact (hb.cell (p := ⟨g, off + j, none⟩) hg).trans this) (Nat.lt_of_lt_of_le hg hb.size) (by omega) hle (by
        have h1 := jn_size L 2000000 hs L.length (Nat.le_refl _)
        have h2 := congrArg ByteArray.size (jn_all L)
        have h3 : (⟨(Lib.join (L.map (·.data.toList)) [59, 32]).toArray⟩ : ByteArray).size = (Lib.join (L.map (·.data.toList)) [59, 32]).length := List.size_toArray
        show (Lib.join (L.map (·.data.toList)) [59, 32]).length ≤ _
        have h4 : L.length * (2000000 + 2) ≤ 2000000 * 2000002 := Nat.mul_le_mul hL (Nat.le_refl _)
        omega)
      rw [show (⟨#[59, 32]⟩ : ByteArray).data.toList = [59, 32] from rfl, jn_all] at h
      exact h
    have hP0 : note.size = 0 → prT L note = jn L L.length ++ ⟨#[10]⟩ := fun h => by unfold prT; rw [if_pos h]
    have hP1 : note.size ≠ 0 → prT L note = (jn L L.length ++ (⟨#[32, 35, 32]⟩ ++ note)) ++ ⟨#[10]⟩ := fun h => by unfold prT; rw [if_neg h]
    have hJs : (jn L L.length).size ≤ 4000004000000 := Nat.le_trans (jn_size L 2000000 hs L.length (Nat.le_refl _)) (Nat.le_trans (Nat.mul_le_mul hL (Nat.le_refl _)) (by decide))
    obtain ⟨J, eJ⟩ : ∃ J, jn L L.length = J := ⟨_, rfl⟩
    rw [eJ] at hP0 hP1 hJs
    rw [eJ] at HJ
    have HP0 : Hid (note.size = 0 → prT L note = J ++ ⟨#[10]⟩) := hP0
    have HP1 : Hid (note.size ≠ 0 → prT L note = (J ++ (⟨#[32, 35, 32]⟩ ++ note)) ++ ⟨#[10]⟩) := hP1
    have em := toList_nil note
    have em2 := empty_is note
    clear hP0 hP1 eJ hd hc q hs
    go_enter Tryd.func14, Tryd.ntmps14
    go_wp2_with (go_at_call 26; refine k26'.mono ?_)
    rintro e w2 ⟨rfl, hb⟩
    have HB2 : Hid (Below w.heap.size w w2) := HB1.out.trans (hb.out.mono HB1.out.size)
    have c1 : w2.cell? ⟨w.heap.size, 1, none⟩ = some (.slice (some ⟨g, off, none⟩) L.length c) := (hb.out.cell (p := ⟨w.heap.size, 1, none⟩) (by simp)).trans (by simp)
    have c2 : w2.cell? ⟨w.heap.size, 2, none⟩ = some (.string note) := (hb.out.cell (p := ⟨w.heap.size, 2, none⟩) (by simp)).trans (by simp)
    have s2 : w.heap.size < w2.heap.size := by have := hb.out.size; simp at this; omega
    clear k26' hb
    go_wp2_with (go_at_call 27; refine (HJ.out w2 HB2.out).mono ?_)
    rintro e w3 ⟨rfl, hb⟩
    have HB3 : Hid (Below w.heap.size w w3) := HB2.out.trans (hb.mono HB2.out.size)
    have c3 : w3.cell? ⟨w.heap.size, 2, none⟩ = some (.string note) := (hb.cell (p := ⟨w.heap.size, 2, none⟩) s2).trans c2
    clear hb c1 c2 s2
    by_cases z : note.size = 0
    · rw [decide_eq_true z] at em em2
      have HZ : Hid (prT L note = J ++ ⟨#[10]⟩) := HP0.out z
      go_wp2
      exact bodyPost_ret (v := .tuple #[.string (J ++ ⟨#[10]⟩), .int .i64 0]) (by simp [results, Tryd.results14, go_sem]) rfl ⟨by rw [HR.out, HZ.out], HB3⟩
    · rw [decide_eq_false z] at em em2
      have HZ : Hid (prT L note = (J ++ (⟨#[32, 35, 32]⟩ ++ note)) ++ ⟨#[10]⟩) := HP1.out z
      go_wp2
      exact bodyPost_ret (v := .tuple #[.string ((J ++ (⟨#[32, 35, 32]⟩ ++ note)) ++ ⟨#[10]⟩), .int .i64 0]) (by simp [results, Tryd.results14, go_sem]) rfl ⟨by rw [HR.out, HZ.out], HB3⟩
end Go.Proofs.YtcjlplaepnpopaaDoor
