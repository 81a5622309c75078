/-
  A span that a field says: the program's answer.
-/
import Derived.Test.YtcjlplaepnpopaaDoorRq
import Derived.Test.YtcjlplaepnpopaaDoorShelf
import Derived.OwnWalk
import Derived.WalkSmall
namespace Go.Proofs.YtcjlplaepnpopaaDoor
open Go.RowKit
theorem ptA_fst : ∀ r : Option Nat, ∃ n c : Int, ptA r = .returned (.tuple #[.int .i32 n, .int .i64 c])
  | none => ⟨0, 90, rfl⟩
  | some n => ⟨n, 0, rfl⟩
theorem set_at2 {w : World} {g i : Nat} {cs : Array Value} {tt : TypeId} (v : Value) (hg : w.heap[g]? = some (.cells cs tt (0, 0))) : (w.setCell ⟨g, i, none⟩ v).heap[g]? = some (.cells (cs.setIfInBounds i v) tt (0, 0)) := by
  simp [World.setCell, Array.getElem?_modify, hg]
/-- A span's two ends, written and read. -/
def W28 (w : World) (n : Nat) (a b : Int) : World := ((((w.alloc (.cells #[.int .i32 0, .int .i32 0] 28)).drewN n).setCell ⟨w.heap.size, 0, none⟩ (.int .i32 a)).setCell ⟨w.heap.size, 1, none⟩ (.int .i32 b))
theorem w28_at (w : World) (n : Nat) (a b : Int) : (W28 w n a b).heap[w.heap.size]? = some (.cells #[.int .i32 a, .int .i32 b] 28 (0, 0)) := by
  have h1 : ((w.alloc (.cells #[.int .i32 0, .int .i32 0] 28)).drewN n).heap[w.heap.size]? = some (.cells #[.int .i32 0, .int .i32 0] 28 (0, 0)) := by
    exact Array.getElem?_push_size
  exact set_at2 (i := 1) (.int .i32 b) (set_at2 (i := 0) (.int .i32 a) h1)
theorem w28_below (w : World) (n : Nat) (a b : Int) : Below w.heap.size w (W28 w n a b) :=
  ((below_drewN ((Below.refl w.heap.size w).alloc (Nat.le_refl _) _) n).setCell (Nat.le_refl _) _).setCell (Nat.le_refl _) _
theorem w28_c0 (w : World) (n : Nat) (a b : Int) : (W28 w n a b).cell? ⟨w.heap.size, 0, none⟩ = some (.int .i32 a) := by simp [World.cell?, w28_at]
theorem w28_c1 (w : World) (n : Nat) (a b : Int) : (W28 w n a b).cell? ⟨w.heap.size, 1, none⟩ = some (.int .i32 b) := by simp [World.cell?, w28_at]
set_option maxRecDepth 100000 in
set_option maxHeartbeats 4000000 in
theorem range_any (s : ByteArray) (m : Int) (w : World) (hs : s.size < 4294967281) (hm : w.cell? ⟨0, 0, none⟩ = some (.int .i64 m)) (h0 : 0 < w.heap.size) : Calls Tryd.prog 7 #[.string s] w fun e w' => ∃ a b c, RgR s a b c ∧ e = .returned (.tuple #[.agg #[.int .i32 a, .int .i32 b], .int .i64 c]) ∧ Below w.heap.size w w' := by
  have k21 := fun w1 hm1 => Tryd.strings_Cut s ⟨#[46, 46]⟩ m w1 hs hm1
  have HM : Hid (∀ o, (w.alloc o).cell? ⟨0, 0, none⟩ = some (.int .i64 m)) := fun o => (((Below.refl w.heap.size w).alloc (Nat.le_refl _) o).cell (p := ⟨0, 0, none⟩) h0).trans hm
  have hs9 : s.size ≤ 9223372036854775807 := by omega
  rcases cut_dots s with ⟨hno, e1, e3⟩ | ⟨i, hd, hf, e1, e2, e3⟩
  · rw [e1, e3] at k21
    have hW := RgR.whole hno
    obtain ⟨G, eG⟩ : ∃ G, (⟨(Lib.cut s.data.toList (⟨#[46, 46]⟩ : ByteArray).data.toList).2.1.toArray⟩ : ByteArray) = G := ⟨_, rfl⟩
    rw [eG] at k21
    clear e1 e3 eG hno
    have k5 := fun w => point_any s w hs9
    cases hp : ptN s with
    | some p =>
      have HX : Hid (RgR s p p 0) := hW.1 p hp
      rw [hp] at k5
      simp only [ptA] at k5
      clear hp hW
      go_enter Tryd.func7, Tryd.ntmps7
      go_wp2_with (first | (go_at_call 21; refine (k21 _ (HM.out _)).mono ?_; rintro e w' ⟨rfl, n, rfl⟩) | (go_at_call 5; refine (k5 _).mono ?_; rintro e w' ⟨rfl, hw⟩; rw [hw]; clear hw))
      change bodyPost Tryd.prog Tryd.f7 _ Exit.ret _ (W28 w n p p)
      have d0 := w28_c0 w n p p
      have d1 := w28_c1 w n p p
      refine bodyPost_ret (v := .tuple #[.agg #[.int .i32 p, .int .i32 p], .int .i64 0]) ?_ rfl ⟨p, p, 0, HX.out, rfl, w28_below w n p p⟩
      simp [results, Tryd.results7, go_sem, d0, d1]
    | none =>
      have HX : Hid (RgR s 0 0 91) := hW.2 hp
      rw [hp] at k5
      simp only [ptA] at k5
      clear hp hW
      go_enter Tryd.func7, Tryd.ntmps7
      go_wp2_with (first | (go_at_call 21; refine (k21 _ (HM.out _)).mono ?_; rintro e w' ⟨rfl, n, rfl⟩) | (go_at_call 5; refine (k5 _).mono ?_; rintro e w' ⟨rfl, hw⟩; rw [hw]; clear hw))
      change bodyPost Tryd.prog Tryd.f7 _ Exit.ret _ (W28 w n 0 0)
      have d0 := w28_c0 w n 0 0
      have d1 := w28_c1 w n 0 0
      refine bodyPost_ret (v := .tuple #[.agg #[.int .i32 0, .int .i32 0], .int .i64 91]) ?_ rfl ⟨0, 0, 91, HX.out, rfl, w28_below w n 0 0⟩
      simp [results, Tryd.results7, go_sem, d0, d1]
  · rw [e1, e2, e3] at k21
    have hW := RgR.cut hd hf
    have z1 : (s.extract 0 i).size ≤ 9223372036854775807 := by rw [ByteArray.size_extract]; omega
    have z2 : (s.extract (i + 2) s.size).size ≤ 9223372036854775807 := by rw [ByteArray.size_extract]; omega
    have k5 := fun w => point_any (s.extract 0 i) w z1
    have k6 := fun w => point_any (s.extract (i + 2) s.size) w z2
    clear e1 e2 e3 hd hf
    obtain ⟨F, eF⟩ : ∃ F, s.extract 0 i = F := ⟨_, rfl⟩
    obtain ⟨G, eG⟩ : ∃ G, s.extract (i + 2) s.size = G := ⟨_, rfl⟩
    simp only [eF, eG] at k21 k5 k6 hW
    clear eF eG z1 z2
    obtain ⟨A, eA⟩ : ∃ A, ptN F = A := ⟨_, rfl⟩
    obtain ⟨B, eB⟩ : ∃ B, ptN G = B := ⟨_, rfl⟩
    simp only [eA, eB] at k5 k6 hW
    clear eA eB
    cases A with
    | none =>
      have HX : Hid (RgR s 0 0 91) := hW.2 fun a b h => by cases h
      clear hW
      obtain ⟨nb, cb, eB⟩ := ptA_fst B
      rw [eB] at k6
      simp only [ptA] at k5
      clear eB
      go_enter Tryd.func7, Tryd.ntmps7
      go_wp2_with (go_at_call 21; refine (k21 _ (HM.out _)).mono ?_)
      rintro e w' ⟨rfl, n, rfl⟩
      go_wp2_with (go_at_call 5; refine (k5 _).mono ?_)
      rintro e w' ⟨rfl, hw⟩
      rw [hw]
      clear hw
      go_wp2_with (go_at_call 5; refine (k6 _).mono ?_)
      rintro e w' ⟨rfl, hw⟩
      rw [hw]
      clear hw
      go_wp2
      change bodyPost Tryd.prog Tryd.f7 _ Exit.ret _ (W28 w n 0 0)
      have d0 := w28_c0 w n 0 0
      have d1 := w28_c1 w n 0 0
      refine bodyPost_ret (v := .tuple #[.agg #[.int .i32 0, .int .i32 0], .int .i64 91]) ?_ rfl ⟨0, 0, 91, HX.out, rfl, w28_below w n 0 0⟩
      simp [results, Tryd.results7, go_sem, d0, d1]
    | some a =>
      cases B with
      | none =>
        have HX : Hid (RgR s 0 0 91) := hW.2 fun a b _ h => by cases h
        clear hW
        simp only [ptA] at k5 k6
        go_enter Tryd.func7, Tryd.ntmps7
        go_wp2_with (go_at_call 21; refine (k21 _ (HM.out _)).mono ?_)
        rintro e w' ⟨rfl, n, rfl⟩
        go_wp2_with (go_at_call 5; refine (k5 _).mono ?_)
        rintro e w' ⟨rfl, hw⟩
        rw [hw]
        clear hw
        go_wp2_with (go_at_call 5; refine (k6 _).mono ?_)
        rintro e w' ⟨rfl, hw⟩
        rw [hw]
        clear hw
        go_wp2
        change bodyPost Tryd.prog Tryd.f7 _ Exit.ret _ (W28 w n 0 0)
        have d0 := w28_c0 w n 0 0
        have d1 := w28_c1 w n 0 0
        refine bodyPost_ret (v := .tuple #[.agg #[.int .i32 0, .int .i32 0], .int .i64 91]) ?_ rfl ⟨0, 0, 91, HX.out, rfl, w28_below w n 0 0⟩
        simp [results, Tryd.results7, go_sem, d0, d1]
      | some b =>
        simp only [ptA] at k5 k6
        by_cases hab : a ≤ b
        · have HX : Hid (RgR s a b 0) := hW.1 a b rfl rfl hab
          have g1 : decide (b < a) = false := decide_eq_false (by omega)
          clear hW
          go_enter Tryd.func7, Tryd.ntmps7
          go_wp2_with (go_at_call 21; refine (k21 _ (HM.out _)).mono ?_)
          rintro e w' ⟨rfl, n, rfl⟩
          go_wp2_with (go_at_call 5; refine (k5 _).mono ?_)
          rintro e w' ⟨rfl, hw⟩
          rw [hw]
          clear hw
          go_wp2_with (go_at_call 5; refine (k6 _).mono ?_)
          rintro e w' ⟨rfl, hw⟩
          rw [hw]
          clear hw
          go_wp2
          change bodyPost Tryd.prog Tryd.f7 _ Exit.ret _ (W28 w n a b)
          have d0 := w28_c0 w n a b
          have d1 := w28_c1 w n a b
          refine bodyPost_ret (v := .tuple #[.agg #[.int .i32 a, .int .i32 b], .int .i64 0]) ?_ rfl ⟨a, b, 0, HX.out, rfl, w28_below w n a b⟩
          simp [results, Tryd.results7, go_sem, d0, d1]
        · have HX : Hid (RgR s 0 0 91) := hW.2 fun x y h1 h2 => by cases h1; cases h2; exact hab
          have g1 : decide (b < a) = true := decide_eq_true (by omega)
          clear hW
          go_enter Tryd.func7, Tryd.ntmps7
          go_wp2_with (go_at_call 21; refine (k21 _ (HM.out _)).mono ?_)
          rintro e w' ⟨rfl, n, rfl⟩
          go_wp2_with (go_at_call 5; refine (k5 _).mono ?_)
          rintro e w' ⟨rfl, hw⟩
          rw [hw]
          clear hw
          go_wp2_with (go_at_call 5; refine (k6 _).mono ?_)
          rintro e w' ⟨rfl, hw⟩
          rw [hw]
          clear hw
          go_wp2
          change bodyPost Tryd.prog Tryd.f7 _ Exit.ret _ (W28 w n 0 0)
          have d0 := w28_c0 w n 0 0
          have d1 := w28_c1 w n 0 0
          refine bodyPost_ret (v := .tuple #[.agg #[.int .i32 0, .int .i32 0], .int .i64 91]) ?_ rfl ⟨0, 0, 91, HX.out, rfl, w28_below w n 0 0⟩
          simp [results, Tryd.results7, go_sem, d0, d1]
end Go.Proofs.YtcjlplaepnpopaaDoor
