/-
  The contract of spans where the list is just the stretches of a number. Conditions: the numbers are code points; the list is no longer than 9000000.
-/
import Derived.Test.YtookbgmolggohaaLe
import Derived.Test.YtookbgmolggohaaSe
namespace Go.Proofs.Ytookbgmolggohaa
open Go.RowKit
/-- A slice of spans that reads as the first two numbers of these. -/
def Rd2 (w : World) (v : Value) (L : List Rw) : Prop :=
  ∃ a c, v = .slice a L.length c ∧ L.length ≤ c ∧ (0 < L.length → ∃ g off, a = some ⟨g, off, none⟩ ∧ ∀ j, j < L.length →
    w.cell? ⟨g, off + j * 2, none⟩ = some (.int .i32 (L.getD j (0, 0, 0)).1) ∧ w.cell? ⟨g, off + j * 2 + 1, none⟩ = some (.int .i32 (L.getD j (0, 0, 0)).2.1))
theorem Rd2.below {w w' : World} {v : Value} {L : List Rw} (h : Rd2 w v L) (hb : Below w.heap.size w w') : Rd2 w' v L := by
  obtain ⟨a, c, rfl, hl, hc⟩ := h
  refine ⟨a, c, rfl, hl, fun hp => ?_⟩
  obtain ⟨g, off, rfl, hd⟩ := hc hp
  refine ⟨g, off, rfl, fun j hj => ?_⟩
  obtain ⟨h1, h2⟩ := hd j hj
  have g1 := World.block_lt_of_cell? w _ h1
  exact ⟨(hb.cell (p := ⟨g, off + j * 2, none⟩) (by simpa using g1)).trans h1, (hb.cell (p := ⟨g, off + j * 2 + 1, none⟩) (by simpa using g1)).trans h2⟩
theorem celS_len (L : List Rw) : (celS L).length = L.length * 2 := by
  induction L with
  | nil => rfl
  | cons s L ih => simp [celS] at ih ⊢; omega
theorem celS_get (L : List Rw) (j : Nat) (h : j < L.length) : (celS L)[j * 2]? = some (.int .i32 (L.getD j (0, 0, 0)).1) ∧ (celS L)[j * 2 + 1]? = some (.int .i32 (L.getD j (0, 0, 0)).2.1) := by
  induction L generalizing j with
  | nil => simp at h
  | cons s L ih =>
    have e : celS (s :: L) = .int .i32 s.1 :: .int .i32 s.2.1 :: celS L := rfl
    rw [e]
    cases j with
    | zero => exact ⟨rfl, rfl⟩
    | succ j =>
      have := ih j (by simpa using h)
      rw [show (j + 1) * 2 = j * 2 + 1 + 1 by omega]
      simpa using this
theorem Rd2.of_owns {w : World} {b e : Nat} {v : Value} {L : List Rw} (h : w.ownsRow b e 2 v L.length (celS L)) : Rd2 w v L := by
  obtain ⟨a, c, rfl, hc, hn⟩ := owns_slice h
  refine ⟨a, c, rfl, hc, fun hp => ?_⟩
  obtain ⟨g, rfl⟩ := hn hp
  refine ⟨g, 0, rfl, fun j hj => ?_⟩
  obtain ⟨h1, h2⟩ := celS_get L j hj
  rw [Nat.zero_add]
  exact ⟨(owns_cell h rfl _ _ h1).1, (owns_cell h rfl _ _ h2).1⟩
/-- The stretches of a number. -/
def ofN (n : Int) (X : List Rw) : List Rw := X.filter fun r => r.2.2 == n
theorem ofN_take {R : List Rw} {k : Nat} (n : Int) (hk : k < R.length) : ofN n (R.take (k + 1)) = ofN n (R.take k) ++ (if (R.getD k (0, 0, 0)).2.2 == n then [R.getD k (0, 0, 0)] else []) := by
  rw [take_snoc3 R k hk]
  simp [ofN, List.filter_append, List.filter_cons]
theorem ofN_split (R : List Rw) (n : Int) (k : Nat) : ofN n R = ofN n (R.take k) ++ ofN n (R.drop k) := by
  unfold ofN
  rw [← List.filter_append, List.take_append_drop]
set_option maxRecDepth 100000 in
set_option maxHeartbeats 4000000 in
theorem spans_same (R : List Rw) (n : Int) (v v' : Value) (w : World) (hr : Rd2 w v (ofN n R)) (hr' : Rd3 .i64 w v' R) (hf : ∀ r ∈ R, 0 ≤ r.1 ∧ r.1 ≤ 1114111 ∧ 0 ≤ r.2.1 ∧ r.2.1 ≤ 1114111) (hl : R.length ≤ 9000000) : Calls Try.prog 31 #[v, v', .int .i64 n] w fun e w' => e = .returned (.bool true) ∧ Below w.heap.size w w' := by
  obtain ⟨a, c, rfl, hlc, hc⟩ := hr
  obtain ⟨a', c', rfl, hlc', hc'⟩ := hr'
  have HC : Hid _ := hc
  have HC' : Hid _ := hc'
  have HF : Hid (∀ r ∈ R, 0 ≤ r.1 ∧ r.1 ≤ 1114111 ∧ 0 ≤ r.2.1 ∧ r.2.1 ≤ 1114111) := hf
  have hlo : (ofN n R).length ≤ R.length := List.length_filter_le _ _
  clear hc hf hc' hlc hlc'
  go_enter Try.func31, Try.ntmps31
  go_wp2_with fail
  go_loopw [7, 12] (fun x y wr => ∃ k i : Nat, k ≤ R.length ∧ y = .int .i64 (k : Nat) ∧ x = .int .i64 (i : Nat) ∧ Hid (i = (ofN n (R.take k)).length) ∧ i ≤ (ofN n R).length ∧ Hid (Below w.heap.size w wr)) (fun _ y _ => (R.length - (intOf y).toNat : Nat))
  case atStart => exact ⟨0, 0, Nat.zero_le _, rfl, rfl, rfl, Nat.zero_le _, Below.refl _ _⟩
  case round =>
    obtain ⟨k, i, hk, rfl, rfl, hi, hil, hB⟩ := hrel
    by_cases hkl : k < R.length
    · obtain ⟨g', off', rfl, hd'⟩ := HC'.out (by omega)
      obtain ⟨d1', d2', d3'⟩ := hd' k hkl
      have kl : (k : Int) < (R.length : Int) := by omega
      have g1' := World.block_lt_of_cell? w _ d1'
      have e1' := (hB.out.cell (p := ⟨g', off' + k * 3, none⟩) (by simpa using g1')).trans d1'
      have e2' := (hB.out.cell (p := ⟨g', off' + k * 3 + 1, none⟩) (by simpa using g1')).trans d2'
      have e3' := (hB.out.cell (p := ⟨g', off' + k * 3 + 2, none⟩) (by simpa using g1')).trans d3'
      have hfm := HF.out (R.getD k (0, 0, 0)) (by rw [show R.getD k (0, 0, 0) = R[k] by simp [List.getD, hkl]]; exact List.getElem_mem hkl)
      have htk := ofN_take n hkl
      have hsp := ofN_split R n (k + 1)
      clear d1' d2' d3' hd' g1' HC' HF
      generalize hsd : R.getD k (0, 0, 0) = s at *
      obtain ⟨x, y, m⟩ := s
      simp only at e1' e2' e3' hfm htk
      obtain ⟨f1, f2, f3, f4⟩ := hfm
      have hbsz := hB.out.size
      obtain ⟨q1, q2, q3⟩ := box3 wr (.int .i64 x) (.int .i64 y) (.int .i64 m) 33
      have bA : Below wr.heap.size wr (wr.alloc (.cells #[.int .i64 x, .int .i64 y, .int .i64 m] 33)) := (Below.refl _ _).alloc (Nat.le_refl _) _
      have B1 : Hid (Below w.heap.size w (wr.alloc (.cells #[.int .i64 x, .int .i64 y, .int .i64 m] 33))) := hB.out.alloc hbsz _
      by_cases hm : m = n
      · have hmd : (m == n) = true := by simpa using hm
        have hti : Hid (i + 1 = (ofN n (R.take (k + 1))).length) := by rw [Hid, htk, hmd, hi.out]; simp
        have hlt : i < (ofN n R).length := by rw [hsp, List.length_append]; have := hti.out; omega
        have hgi : (ofN n R).getD i (0, 0, 0) = (x, y, m) := by
          rw [hsp, htk, hmd]
          have := hi.out
          simp [List.getD, this]
        obtain ⟨g, off, rfl, hd⟩ := HC.out (by omega)
        obtain ⟨d1, d2⟩ := hd i hlt
        rw [hgi] at d1 d2
        have g1 := World.block_lt_of_cell? w _ d1
        have e1 := (B1.out.cell (p := ⟨g, off + i * 2, none⟩) (by simpa using g1)).trans d1
        have e2 := (B1.out.cell (p := ⟨g, off + i * 2 + 1, none⟩) (by simpa using g1)).trans d2
        have il : decide (((ofN n R).length : Int) ≤ (i : Int)) = false := decide_eq_false (by omega)
        have il2 : ¬ (ofN n R).length ≤ i := by omega
        have B2 : Hid (∀ n', Below w.heap.size w ((wr.alloc (.cells #[.int .i64 x, .int .i64 y, .int .i64 m] 33)).drewN n')) := fun n' => below_drew n' B1.out
        clear d1 d2 hd g1 HC hsp htk hgi bA hB B1 hsd hm
        generalize (ofN n R).length = No at *
        simp only at e1 e2
        go_wp2_with fail
        go_quiet (fail)
        go_wp2
        refine ⟨⟨k + 1, i + 1, by omega, by go_num, by go_num, hti, by omega, B2.out _⟩, by simp [intOf]; omega⟩
      · have hmd : (m == n) = false := by simpa using hm
        have hti : Hid (i = (ofN n (R.take (k + 1))).length) := by rw [Hid, htk, hmd, hi.out]; simp
        clear hsp htk bA hB hsd hm
        go_wp2
        refine ⟨⟨k + 1, i, by omega, by go_num, rfl, hti, hil, B1⟩, by simp [intOf]; omega⟩
    · have hkk : k = R.length := by omega
      subst hkk
      have hie : i = (ofN n R).length := by
        have := hi.out
        rwa [List.take_length] at this
      have hid : ((i : Int) == ((ofN n R).length : Int)) = true := by simp [hie]
      clear hi hie
      go_wp2
      go_ret
      exact ⟨rfl, hB.out⟩
end Go.Proofs.Ytookbgmolggohaa
