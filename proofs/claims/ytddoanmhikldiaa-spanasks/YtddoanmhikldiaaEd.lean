/-
  The contract of the document's edges: the places at which something may begin or end. Conditions: the lists are not too long; their spans may be.
-/
import Derived.Test.YtddoanmhikldiaaIh
namespace Go.Proofs.Ytddoanmhikldiaa
open Go.RowKit
def edS (E : List Int) (s : Sn) : List Int := if s.2 < 1114111 then insL (insL E s.1) (s.2 + 1) else insL E s.1
def edF (E : List Int) (L : List Sn) : List Int := L.foldl edS E
theorem edS_len (E : List Int) (s : Sn) : E.length ≤ (edS E s).length ∧ (edS E s).length ≤ E.length + 2 := by
  have h1 := ins_len E s.1
  have h2 := ins_len (insL E s.1) (s.2 + 1)
  unfold edS
  split <;> omega
theorem edF_len (L : List Sn) : ∀ E : List Int, E.length ≤ (edF E L).length ∧ (edF E L).length ≤ E.length + 2 * L.length := by
  induction L with
  | nil => intro E; exact ⟨Nat.le_refl _, by simp [edF]⟩
  | cons s L ih =>
    intro E
    have h1 := ih (edS E s)
    have h2 := edS_len E s
    have e : edF E (s :: L) = edF (edS E s) L := rfl
    rw [e]
    simp only [List.length_cons]
    omega
theorem edF_snoc (E : List Int) (L : List Sn) (s : Sn) : edF E (L ++ [s]) = edS (edF E L) s := by simp [edF]
theorem edS_mem (E : List Int) (s : Sn) (x : Int) : x ∈ edS E s ↔ x ∈ E ∨ x = s.1 ∨ (s.2 < 1114111 ∧ x = s.2 + 1) := by
  unfold edS
  split
  · rename_i h; rw [ins_mem, ins_mem]; simp [h, or_assoc]
  · rename_i h; rw [ins_mem]; simp [h]
theorem edF_mem (L : List Sn) : ∀ (E : List Int) (x : Int), x ∈ edF E L ↔ x ∈ E ∨ ∃ s ∈ L, x = s.1 ∨ (s.2 < 1114111 ∧ x = s.2 + 1) := by
  induction L with
  | nil => intro E x; simp [edF]
  | cons s L ih =>
    intro E x
    have e : edF E (s :: L) = edF (edS E s) L := rfl
    rw [e, ih, edS_mem]
    simp [or_assoc]
theorem edF_rise (L : List Sn) : ∀ E : List Int, E.Pairwise (· < ·) → (edF E L).Pairwise (· < ·) := by
  induction L with
  | nil => intro E h; exact h
  | cons s L ih =>
    intro E h
    refine ih _ ?_
    unfold edS
    split
    · exact ins_rise _ _ (ins_rise _ _ h)
    · exact ins_rise _ _ h
set_option maxRecDepth 100000 in
set_option maxHeartbeats 1000000 in
theorem edges_any (A B : List Sn) (va vb : Value) (g2 : Nat) (w : World) (ha : RdS w va A) (hb : RdS w vb B) (h0 : w.cell? ⟨g2, 0, none⟩ = some va) (h1 : w.cell? ⟨g2, 1, none⟩ = some vb) (hma : ∀ s ∈ A, mayB s = true) (hmb : ∀ s ∈ B, mayB s = true) (hla : A.length ≤ 1000000) (hlb : B.length ≤ 1000000) : Calls Try.prog 39 #[.slice (some ⟨g2, 0, none⟩) 2 2] w fun e w' => ∃ v', e = .returned v' ∧ RdI w' v' (edF (edF [0] A) B) ∧ Below w.heap.size w w' := by
  have KEY : Hid (∀ i : Nat, i < 2 → ∃ (cur : List Sn) (v : Value), w.cell? ⟨g2, i, none⟩ = some v ∧ RdS w v cur ∧ cur.length ≤ 1000000 ∧ (∀ s ∈ cur, mayB s = true) ∧ (([A, B].take (i + 1)).foldl edF [0] = edF (([A, B].take i).foldl edF [0]) cur)) := by
    intro i hi
    match i, hi with
    | 0, _ => exact ⟨A, va, h0, ha, hla, hma, rfl⟩
    | 1, _ => exact ⟨B, vb, h1, hb, hlb, hmb, rfl⟩
  have LEN : Hid (∀ i : Nat, i ≤ 2 → 0 < (([A, B].take i).foldl edF [0]).length ∧ (([A, B].take i).foldl edF [0]).length ≤ 1 + 2 * A.length + 2 * B.length) := by
    intro i hi
    have l1 := edF_len A [0]
    have l2 := edF_len B (edF [0] A)
    simp only [List.length_cons, List.length_nil] at l1
    match i, hi with
    | 0, _ => exact ⟨by simp, by simp; omega⟩
    | 1, _ => exact ⟨by show 0 < (edF [0] A).length; omega, by show (edF [0] A).length ≤ _; omega⟩
    | 2, _ => exact ⟨by show 0 < (edF (edF [0] A) B).length; omega, by show (edF (edF [0] A) B).length ≤ _; omega⟩
  clear ha hb h0 h1 hma hmb
  go_enter Try.func39, Try.ntmps39
  go_wp2_with fail
  go_loopw [3, 4] (fun x y wr => ∃ i : Nat, i ≤ 2 ∧ y = .int .i64 (i : Nat) ∧ Hid (RdI wr x (([A, B].take i).foldl edF [0])) ∧ Hid (Below w.heap.size w wr)) (fun _ y _ => (2 - (intOf y).toNat : Nat))
  case atStart =>
    refine ⟨0, by omega, rfl, ⟨w.heap.size, 0, 1, rfl, by simp, fun j hj => ?_⟩, (Below.refl _ _).alloc (Nat.le_refl _) _⟩
    have : j = 0 := by simpa using hj
    subst this
    exact cells_new w #[.int .i32 0] 21 0 _ rfl
  case round =>
    obtain ⟨i, hi, rfl, hI, hB⟩ := hrel
    by_cases hi2 : i < 2
    · obtain ⟨cur, vc, hcell, hrd, hlen, hmay, hE⟩ := KEY.out i hi2
      have i2 : (i : Int) < 2 := by omega
      have hl0 := LEN.out i hi
      have HE : Hid _ := hE
      clear hE
      generalize ([A, B].take i).foldl edF [0] = E0 at *
      obtain ⟨a, c, rfl, hlc, hc⟩ := hrd
      have HC : Hid _ := hc
      have HM : Hid (∀ s ∈ cur, mayB s = true) := hmay
      have g1 := World.block_lt_of_cell? w _ hcell
      have HV : Hid (∀ w1 : World, Below w.heap.size w w1 → w1.cell? ⟨g2, i, none⟩ = some (.slice a cur.length c)) := fun w1 hb => (hb.cell (p := ⟨g2, i, none⟩) (by simpa using g1)).trans hcell
      clear hc hmay hcell g1
      go_wp2_with fail
      go_loopw [3, 5] (fun x y wr => ∃ k : Nat, k ≤ cur.length ∧ y = .int .i64 (k : Nat) ∧ Hid (RdI wr x (edF E0 (cur.take k))) ∧ Hid (Below w.heap.size w wr)) (fun _ y _ => (cur.length - (intOf y).toNat : Nat))
      case atStart => exact ⟨0, Nat.zero_le _, rfl, hI.out, hB.out⟩
      case round =>
        obtain ⟨k, hk, rfl, hJ, hD⟩ := hrel
        have v1 := HV.out _ hD.out
        by_cases hkl : k < cur.length
        · obtain ⟨g, off, rfl, hd⟩ := HC.out (by omega)
          obtain ⟨d1, d2⟩ := hd k hkl
          have kl : (k : Int) < (cur.length : Int) := by omega
          have g1 := World.block_lt_of_cell? w _ d1
          have HK : Hid (∀ w1 : World, Below w.heap.size w w1 → w1.cell? ⟨g, off + k * 2, none⟩ = some (.int .i32 (cur.getD k (0, 0)).1) ∧ w1.cell? ⟨g, off + k * 2 + 1, none⟩ = some (.int .i32 (cur.getD k (0, 0)).2)) := fun w1 hb => ⟨(hb.cell (p := ⟨g, off + k * 2, none⟩) (by simpa using g1)).trans d1, (hb.cell (p := ⟨g, off + k * 2 + 1, none⟩) (by simpa using g1)).trans d2⟩
          clear d1 d2 hd g1 HC
          have hsn : Hid (cur.take (k + 1) = cur.take k ++ [cur.getD k (0, 0)]) := take_snoc cur k hkl
          have hmk : Hid _ := may_iff.1 (HM.out _ (get_mem cur k hkl))
          have hlk : Hid (0 < (edF E0 (cur.take k)).length ∧ (edF E0 (cur.take k)).length ≤ 100000000) := by
            have := edF_len (cur.take k) E0
            rw [List.length_take] at this
            rw [Hid]; omega
          generalize cur.getD k (0, 0) = s at *
          obtain ⟨x, y⟩ := s
          obtain ⟨m1, m2, m3⟩ := hmk.out
          simp only at m1 m2 m3
          obtain ⟨e1, e2⟩ := HK.out _ hD.out
          go_wp2_with fail
          refine (insert_any (edF E0 (cur.take k)) x _ _ hJ.out hlk.out.1 (by have := hlk.out; omega)).mono ?_
          rintro e w1 ⟨v', rfl, R1, B1⟩
          have HR1 : Hid (RdI w1 v' (insL (edF E0 (cur.take k)) x)) := R1
          have HB1 : Hid (Below w.heap.size w w1) := hD.out.trans (B1.mono hD.out.size)
          have v2 := HV.out _ HB1.out
          obtain ⟨q1, q2⟩ := HK.out _ HB1.out
          clear R1 B1 e1 e2
          by_cases c1 : y < 1114111
          · go_wp2_with fail
            refine (insert_any (insL (edF E0 (cur.take k)) x) (y + 1) _ _ HR1.out (by have := hlk.out; have := ins_len (edF E0 (cur.take k)) x; omega) (by have := hlk.out; have := ins_len (edF E0 (cur.take k)) x; omega)).mono ?_
            rintro e w2 ⟨v'', rfl, R2, B2⟩
            have HR2 : Hid (RdI w2 v'' (edF E0 (cur.take (k + 1)))) := by
              rw [Hid, hsn.out, edF_snoc, edS]
              simp only [c1, if_true]
              exact R2
            have HB2 : Hid (Below w.heap.size w w2) := HB1.out.trans (B2.mono HB1.out.size)
            clear R2 B2 HR1
            go_wp2
            refine ⟨⟨k + 1, by omega, by go_num, HR2.out, HB2.out⟩, by simp [intOf]; omega⟩
          · have c1' : decide (y < 1114111) = false := decide_eq_false c1
            have HR2 : Hid (RdI w1 v' (edF E0 (cur.take (k + 1)))) := by
              rw [Hid, hsn.out, edF_snoc, edS]
              simp only [c1, if_false]
              exact HR1.out
            clear c1 HR1
            go_wp2
            refine ⟨⟨k + 1, by omega, by go_num, HR2.out, HB1.out⟩, by simp [intOf]; omega⟩
        · have hkk : k = cur.length := by omega
          subst hkk
          have HJ : Hid (RdI wr u3 (edF E0 cur)) := by
            have := hJ.out
            rw [List.take_length] at this
            exact this
          go_wp2
          refine ⟨⟨i + 1, by omega, by go_num, by rw [HE.out]; exact HJ.out, hD.out⟩, by simp [intOf]; omega⟩
    · have hii : i = 2 := by omega
      subst hii
      go_wp2
      go_ret
      exact ⟨_, rfl, hI.out, hB.out⟩
end Go.Proofs.Ytddoanmhikldiaa
