/-
  The contract of Is: whether a list of spans is a set. Conditions: the numbers fit; the list takes no more bytes than there are.
-/
import Derived.Test.YtddoanmhikldiabRd
namespace Go.Proofs.Ytddoanmhikldiab
open Go.RowKit
theorem take_snoc (L : List Sn) (k : Nat) (h : k < L.length) : L.take (k + 1) = L.take k ++ [L.getD k (0, 0)] := by
  rw [List.take_succ_eq_append_getElem h]; simp [List.getD, List.getElem?_eq_getElem h]
theorem get_mem (L : List Sn) (k : Nat) (h : k < L.length) : L.getD k (0, 0) ∈ L := by
  simp [List.getD, List.getElem?_eq_getElem h]
theorem isS_take {L : List Sn} {m : Int} (k : Nat) (h : isS m L = true) : isS m (L.take k) = true := by
  rw [← List.take_append_drop k L] at h
  exact (isS_app.1 h).1
theorem nxt_le {l : List Sn} (h : isS 0 l = true) : 0 ≤ nxt 0 l ∧ nxt 0 l ≤ 1114113 := by
  rcases snoc_or l with rfl | ⟨y, t, rfl⟩
  · exact ⟨by decide, by decide⟩
  · rw [nxt_snoc]
    have := may_iff.1 (isS_snoc.1 h).2.1
    omega
set_option maxRecDepth 100000 in
set_option maxHeartbeats 1000000 in
theorem is_any (L : List Sn) (v : Value) (w : World) (hr : RdS w v L) (hf : fitS L) (hl : L.length ≤ 35184372088832) : Calls Try.prog 18 #[v] w fun e w' => e = .returned (.bool (isB L)) ∧ Below w.heap.size w w' := by
  obtain ⟨a, c, rfl, hlc, hc⟩ := hr
  by_cases c1 : 65536 < L.length
  · have hb : isB L = false := by simp [isB]; intro h; omega
    have h1 : ((L.length : Nat) : Int) > 65536 := by omega
    rw [hb]
    go_enter Try.func18, Try.ntmps18
    go_wp2
    go_ret
    exact ⟨rfl, Below.refl _ _⟩
  · have h1 : ((L.length : Nat) : Int) ≤ 65536 := by omega
    have HC : Hid (0 < L.length → ∃ g off, a = some ⟨g, off, none⟩ ∧ ∀ j, j < L.length → w.cell? ⟨g, off + j * 2, none⟩ = some (.int .i32 (L.getD j (0, 0)).1) ∧ w.cell? ⟨g, off + j * 2 + 1, none⟩ = some (.int .i32 (L.getD j (0, 0)).2)) := hc
    clear hc
    go_enter Try.func18, Try.ntmps18
    go_wp2_with fail
    go_loopw [3, 11] (fun x y wr => ∃ k : Nat, k ≤ L.length ∧ y = .int .i64 (k : Nat) ∧ x = .int .i32 (nxt 0 (L.take k)) ∧ Hid (isS 0 (L.take k) = true) ∧ Hid (Below w.heap.size w wr)) (fun _ y _ => (L.length - (intOf y).toNat : Nat))
    case atStart => exact ⟨0, Nat.zero_le _, rfl, rfl, rfl, Below.refl _ _⟩
    case round =>
      obtain ⟨k, hk, rfl, rfl, hS, hB⟩ := hrel
      by_cases hkl : k < L.length
      · obtain ⟨g, off, rfl, hd⟩ := HC.out (by omega)
        obtain ⟨d1, d2⟩ := hd k hkl
        have kl : (k : Int) < (L.length : Int) := by omega
        have g1 := World.block_lt_of_cell? w _ d1
        have e1 := (hB.out.cell (p := ⟨g, off + k * 2, none⟩) (by simpa using g1)).trans d1
        have e2 := (hB.out.cell (p := ⟨g, off + k * 2 + 1, none⟩) (by simpa using g1)).trans d2
        clear d1 d2 hd g1 HC
        have hsn : Hid (L.take (k + 1) = L.take k ++ [L.getD k (0, 0)]) := take_snoc L k hkl
        have hfk : Hid _ := hf _ (get_mem L k hkl)
        have hnx : Hid _ := nxt_le hS.out
        generalize L.getD k (0, 0) = s at *
        obtain ⟨x, y⟩ := s
        have hbsz := hB.out.size
        go_wp2_with fail
        refine (may_any x y _).mono ?_
        rintro e w1 ⟨rfl, B1⟩
        obtain ⟨q1, q2⟩ := box2_below B1
        have B2 : Hid (Below w.heap.size w w1) := below_box hB.out B1
        clear B1 e1 e2
        cases hm : mayB (x, y)
        · have hb : Hid (isB L = false) := by
            rw [Hid, isB, Bool.and_eq_false_iff]; right
            rw [Bool.eq_false_iff]; intro h
            have := isS_take (k + 1) h
            rw [hsn.out, isS_snoc, hm] at this
            exact absurd this.2.1 (by decide)
          go_wp2
          go_ret
          exact ⟨by rw [hb.out]; rfl, B2.out⟩
        · have hm' := may_iff.1 hm
          simp only at hm'
          obtain ⟨m1, m2, m3⟩ := hm'
          by_cases hx : x < nxt 0 (L.take k)
          · have hb : Hid (isB L = false) := by
              rw [Hid, isB, Bool.and_eq_false_iff]; right
              rw [Bool.eq_false_iff]; intro h
              have := isS_take (k + 1) h
              rw [hsn.out, isS_snoc] at this
              have := this.2.2
              simp only at this
              omega
            go_wp2
            go_ret
            exact ⟨by rw [hb.out]; rfl, B2.out⟩
          · have hx' : decide (x < nxt 0 (L.take k)) = false := decide_eq_false hx
            have hS2 : Hid (isS 0 (L.take (k + 1)) = true) := by
              rw [Hid, hsn.out, isS_snoc]
              exact ⟨hS.out, hm, by simp only; omega⟩
            have hn2 : Hid (nxt 0 (L.take (k + 1)) = y + 2) := by rw [Hid, hsn.out, nxt_snoc]
            clear hx
            go_wp2
            refine ⟨⟨k + 1, by omega, by go_num, by rw [hn2.out], hS2.out, B2.out⟩, by simp [intOf]; omega⟩
      · have hkk : k = L.length := by omega
        subst hkk
        have hb : Hid (isB L = true) := by
          have := hS.out
          rw [List.take_length] at this
          rw [Hid, isB, this, Bool.and_true, decide_eq_true_eq]; omega
        go_wp2
        go_ret
        exact ⟨by rw [hb.out]; rfl, hB.out⟩
end Go.Proofs.Ytddoanmhikldiab
