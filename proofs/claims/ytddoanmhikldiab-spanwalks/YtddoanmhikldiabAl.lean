/-
  The contract of alike: whether two lists hold the same spans. Conditions: the lists take no more bytes than there are.
-/
import Derived.Test.YtddoanmhikldiabIs
namespace Go.Proofs.Ytddoanmhikldiab
open Go.RowKit
theorem below_drewN (B : Nat) (w : World) (n : Nat) : Below B w (w.drewN n) := ⟨rfl, rfl, rfl, Nat.le_refl _, fun _ _ => rfl⟩
theorem take_all {A B : List Sn} (h : A.length = B.length) (he : A.take A.length = B.take A.length) : A = B := by
  rw [List.take_length, h, List.take_length] at he; exact he
set_option maxRecDepth 100000 in
set_option maxHeartbeats 1000000 in
theorem alike_any (A B : List Sn) (va vb : Value) (w : World) (ha : RdS w va A) (hb : RdS w vb B) (hla : A.length ≤ 35184372088832) (_hlb : B.length ≤ 35184372088832) : Calls Try.prog 16 #[va, vb] w fun e w' => e = .returned (.bool (decide (A = B))) ∧ Below w.heap.size w w' := by
  obtain ⟨a, c, rfl, hlc, hc⟩ := ha
  obtain ⟨a', c', rfl, hlc', hc'⟩ := hb
  by_cases c1 : A.length = B.length
  · have HC : Hid _ := hc
    have HC' : Hid _ := hc'
    clear hc hc'
    rw [← c1] at HC' ⊢
    have C1 : Hid (A.length = B.length) := c1
    clear c1
    go_enter Try.func16, Try.ntmps16
    go_wp2_with fail
    go_loopw [5] (fun y wr => ∃ k : Nat, k ≤ A.length ∧ y = .int .i64 (k : Nat) ∧ Hid (A.take k = B.take k) ∧ Hid (Below w.heap.size w wr)) (fun y _ => (A.length - (intOf y).toNat : Nat))
    case atStart => exact ⟨0, Nat.zero_le _, rfl, rfl, Below.refl _ _⟩
    case round =>
      obtain ⟨k, hk, rfl, hE, hB⟩ := hrel
      by_cases hkl : k < A.length
      · obtain ⟨g, off, rfl, hd⟩ := HC.out (by omega)
        obtain ⟨g', off', rfl, hd'⟩ := HC'.out (by have := C1.out; omega)
        obtain ⟨d1, d2⟩ := hd k hkl
        obtain ⟨d1', d2'⟩ := hd' k (by have := C1.out; omega)
        have kl : (k : Int) < (A.length : Int) := by omega
        have g1 := World.block_lt_of_cell? w _ d1
        have g1' := World.block_lt_of_cell? w _ d1'
        have e1 := (hB.out.cell (p := ⟨g, off + k * 2, none⟩) (by simpa using g1)).trans d1
        have e2 := (hB.out.cell (p := ⟨g, off + k * 2 + 1, none⟩) (by simpa using g1)).trans d2
        have e1' := (hB.out.cell (p := ⟨g', off' + k * 2, none⟩) (by simpa using g1')).trans d1'
        have e2' := (hB.out.cell (p := ⟨g', off' + k * 2 + 1, none⟩) (by simpa using g1')).trans d2'
        clear d1 d2 hd g1 HC d1' d2' hd' g1' HC'
        have hsn : Hid (A.take (k + 1) = A.take k ++ [A.getD k (0, 0)]) := take_snoc A k hkl
        have hsn' : Hid (B.take (k + 1) = B.take k ++ [B.getD k (0, 0)]) := take_snoc B k (by have := C1.out; omega)
        generalize A.getD k (0, 0) = s at *
        generalize B.getD k (0, 0) = t at *
        obtain ⟨x, y⟩ := s
        obtain ⟨x', y'⟩ := t
        have hne : Hid ((x, y) ≠ (x', y') → decide (A = B) = false) := by
          intro h
          refine decide_eq_false fun e => h ?_
          have h1 := hsn.out
          rw [e, hsn'.out] at h1
          have := List.append_inj_right' h1 rfl
          simp at this
          simp [this]
        by_cases c2 : x = x'
        · subst c2
          by_cases c3 : y = y'
          · subst c3
            have hE2 : Hid (A.take (k + 1) = B.take (k + 1)) := by rw [Hid, hsn.out, hsn'.out, hE.out]
            clear hsn hsn' hne
            go_wp2_with fail
            go_quiet (fail)
            go_wp2
            refine ⟨⟨k + 1, by omega, by go_num, hE2.out, hB.out.trans (below_drewN _ _ _)⟩, by simp [intOf]; omega⟩
          · have hr := hne.out (by simp [c3])
            have HR : Hid _ := hr
            have c3' : (y != y') = true := by simpa using c3
            clear c3 hne hr hsn hsn'
            go_wp2_with fail
            go_quiet (fail)
            go_wp2
            go_ret
            exact ⟨by rw [HR.out]; rfl, hB.out.trans (below_drewN _ _ _)⟩
        · have hr := hne.out (by simp [c2])
          have HR : Hid _ := hr
          have c2' : (x != x') = true := by simpa using c2
          clear c2 hne hr hsn hsn'
          go_wp2_with fail
          go_quiet (fail)
          go_wp2
          go_ret
          exact ⟨by rw [HR.out]; rfl, hB.out.trans (below_drewN _ _ _)⟩
      · have hkk : k = A.length := by omega
        subst hkk
        have hr : decide (A = B) = true := decide_eq_true (take_all C1.out hE.out)
        have HR : Hid _ := hr
        clear hr
        go_wp2
        go_ret
        exact ⟨by rw [HR.out]; rfl, hB.out⟩
  · have hr : decide (A = B) = false := decide_eq_false fun e => c1 (by rw [e])
    have c1' : ((A.length : Int) != (B.length : Int)) = true := by simp; omega
    rw [hr]
    clear c1
    go_enter Try.func16, Try.ntmps16
    go_wp2
    go_ret
    exact ⟨rfl, Below.refl _ _⟩
end Go.Proofs.Ytddoanmhikldiab
