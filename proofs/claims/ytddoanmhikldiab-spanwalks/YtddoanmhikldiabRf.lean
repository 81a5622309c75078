/-
  The contracts of the document's Count, At, Place and Next. Conditions: the lists are sets.
-/
import Derived.Test.YtddoanmhikldiabRc
import Derived.Test.YtddoanmhikldiabAl
namespace Go.Proofs.Ytddoanmhikldiab
open Go.RowKit
theorem at_cons (s : Sn) (L : List Sn) (i : Int) : atL (s :: L) i = if i < szI s then s.1 + i else atL L (i - szI s) := rfl
def rplL (p : Int) : List Sn → Int
  | [] => 0
  | s :: L => (if s.2 < p then szI s else if s.1 < p then p - s.1 else 0) + rplL p L
theorem rpl_low : ∀ {L : List Sn} {m p : Int}, isS m L = true → p ≤ m → rplL p L = 0 := by
  intro L
  induction L with
  | nil => intro m p _ _; rfl
  | cons s L ih =>
    intro m p h hp
    have h' := isS_cons.1 h
    have hs := may_iff.1 h'.1
    unfold rplL
    rw [if_neg (by omega), if_neg (by omega), ih h'.2.2 (by omega)]
    rfl
theorem rpl_is : ∀ {L : List Sn} {m p : Int}, isS m L = true → hasB L p = true → rplL p L = plL L p := by
  intro L
  induction L with
  | nil => intro m p _ h; cases h
  | cons s L ih =>
    intro m p h hh
    have h' := isS_cons.1 h
    have hs := may_iff.1 h'.1
    rw [has_cons] at hh
    unfold rplL plL
    rw [rch_cons]
    by_cases c : s.2 < p
    · rw [show inB s p = false from by rw [Bool.eq_false_iff]; intro h; have := in_iff.1 h; omega, Bool.false_or] at hh
      have := ih h'.2.2 hh
      unfold plL at this
      rw [if_pos c, if_pos c, this, List.take_succ_cons, cnt_cons, List.getD_cons_succ]
      omega
    · rw [has_low h'.2.2 (p := p) (by omega), Bool.or_false] at hh
      have hin := in_iff.1 hh
      rw [if_neg c, if_neg c, rpl_low h'.2.2 (by omega)]
      simp only [List.take_zero, cnt_nil, List.getD_cons_zero]
      split <;> omega
theorem rpl_take (L : List Sn) (p : Int) (k : Nat) (h : k < L.length) : rplL p (L.take (k + 1)) = rplL p (L.take k) + (if (L.getD k (0, 0)).2 < p then szI (L.getD k (0, 0)) else if (L.getD k (0, 0)).1 < p then p - (L.getD k (0, 0)).1 else 0) := by
  have key : ∀ (A : List Sn) (s : Sn), rplL p (A ++ [s]) = rplL p A + (if s.2 < p then szI s else if s.1 < p then p - s.1 else 0) := by
    intro A s
    induction A with
    | nil => show _ + rplL p [] = rplL p [] + _; unfold rplL; omega
    | cons t A ih => show _ + rplL p (A ++ [s]) = _ + rplL p A + _; rw [ih]; omega
  rw [take_snoc L k h, key]
theorem rpl_bd (p : Int) : ∀ (L : List Sn), (∀ s ∈ L, mayB s = true) → 0 ≤ p → p ≤ 1114111 → 0 ≤ rplL p L ∧ rplL p L ≤ 1114112 * L.length := by
  intro L
  induction L with
  | nil => intro _ _ _; exact ⟨Int.le_refl _, by show (0 : Int) ≤ _; simp⟩
  | cons s L ih =>
    intro h h0 h1
    have h2 := ih (fun t ht => h t (by simp [ht])) h0 h1
    have h3 := may_iff.1 (h s (by simp))
    have hz : szI s = s.2 - s.1 + 1 := rfl
    unfold rplL
    simp only [List.length_cons]
    constructor
    · split
      · omega
      · split <;> omega
    · split
      · omega
      · split <;> omega
set_option maxRecDepth 100000 in
set_option maxHeartbeats 1000000 in
theorem rcount_any (L : List Sn) (v : Value) (w : World) (hr : RdS w v L) (hs : isS 0 L = true) (hl : L.length ≤ 1000000) : Calls Try.prog 9 #[v] w fun e w' => e = .returned (.int .i64 (cntL L)) ∧ Below w.heap.size w w' := by
  obtain ⟨a, c, rfl, hlc, hc⟩ := hr
  have HC : Hid _ := hc
  have HM : Hid (∀ s ∈ L, mayB s = true) := fun s h => (isS_mem hs s h).1
  clear hc
  go_enter Try.func9, Try.ntmps9
  go_wp2_with fail
  go_loopw [3, 4] (fun x y wr => ∃ k : Nat, k ≤ L.length ∧ y = .int .i64 (k : Nat) ∧ x = .int .i64 (cntL (L.take k)) ∧ Hid (Below w.heap.size w wr)) (fun _ y _ => (L.length - (intOf y).toNat : Nat))
  case atStart => exact ⟨0, Nat.zero_le _, rfl, rfl, Below.refl _ _⟩
  case round =>
    obtain ⟨k, hk, rfl, rfl, hB⟩ := hrel
    by_cases hkl : k < L.length
    · obtain ⟨g, off, rfl, hd⟩ := HC.out (by omega)
      obtain ⟨d1, d2⟩ := hd k hkl
      have kl : (k : Int) < (L.length : Int) := by omega
      have g1 := World.block_lt_of_cell? w _ d1
      have e1 := (hB.out.cell (p := ⟨g, off + k * 2, none⟩) (by simpa using g1)).trans d1
      have e2 := (hB.out.cell (p := ⟨g, off + k * 2 + 1, none⟩) (by simpa using g1)).trans d2
      clear d1 d2 hd g1 HC
      have hct : Hid (cntL (L.take (k + 1)) = cntL (L.take k) + szI (L.getD k (0, 0))) := cnt_take L k hkl
      have hcb := cnt_le (L.take k) (fun s hs => HM.out s (List.mem_of_mem_take hs))
      have hlt : (L.take k).length = k := by rw [List.length_take]; omega
      rw [hlt] at hcb
      obtain ⟨m1, m2, m3⟩ := may_iff.1 (HM.out _ (get_mem L k hkl))
      generalize L.getD k (0, 0) = s at *
      obtain ⟨x, y⟩ := s
      simp only at m1 m2 m3
      clear hlt
      generalize cntL (L.take k) = ck at *
      have f1 : IntKind.i32.wrap (y - x) = y - x := IntWalk.i32_in _ (by omega)
      have f2 : IntKind.i64.wrap (y - x) = y - x := IntWalk.i64_in _ (by omega)
      have f3 : IntKind.i64.wrap (y - x + 1) = y - x + 1 := IntWalk.i64_in _ (by omega)
      have f4 : IntKind.i64.wrap (ck + (y - x + 1)) = ck + (y - x + 1) := IntWalk.i64_in _ (by omega)
      go_wp2_with fail
      go_quiet (fail)
      go_wp2
      refine ⟨⟨k + 1, by omega, by go_num, by rw [hct.out]; rfl, hB.out.trans (below_drewN _ _ _)⟩, by simp [intOf]; omega⟩
    · have hkk : k = L.length := by omega
      subst hkk
      have hT : Hid (cntL (L.take L.length) = cntL L) := by rw [Hid, List.take_length]
      generalize cntL (L.take L.length) = ck at *
      go_wp2
      go_ret
      exact ⟨by rw [← hT.out]; rfl, hB.out⟩
set_option maxRecDepth 100000 in
set_option maxHeartbeats 1000000 in
theorem rat_any (L : List Sn) (i : Int) (v : Value) (w : World) (hr : RdS w v L) (hs : isS 0 L = true) (hl : L.length ≤ 1000000) (hi : 0 ≤ i) (hi2 : i ≤ 2147483647) : Calls Try.prog 10 #[v, .int .i64 i] w fun e w' => e = .returned (.int .i32 (atL L i)) ∧ Below w.heap.size w w' := by
  obtain ⟨a, c, rfl, hlc, hc⟩ := hr
  have HC : Hid _ := hc
  have HM : Hid (∀ s ∈ L, mayB s = true) := fun s h => (isS_mem hs s h).1
  clear hc
  have hi' : ¬ i < 0 := by omega
  go_enter Try.func10, Try.ntmps10
  go_wp2_with fail
  go_loopw [1, 5] (fun x y wr => ∃ (k : Nat) (i' : Int), k ≤ L.length ∧ y = .int .i64 (k : Nat) ∧ x = .int .i64 i' ∧ 0 ≤ i' ∧ i' ≤ 2147483647 ∧ Hid (atL (L.drop k) i' = atL L i) ∧ Hid (Below w.heap.size w wr)) (fun _ y _ => (L.length - (intOf y).toNat : Nat))
  case atStart => exact ⟨0, i, Nat.zero_le _, rfl, rfl, hi, hi2, rfl, Below.refl _ _⟩
  case round =>
    obtain ⟨k, i', hk, rfl, rfl, hp0, hp1, hE, hB⟩ := hrel
    by_cases hkl : k < L.length
    · obtain ⟨g, off, rfl, hd⟩ := HC.out (by omega)
      obtain ⟨d1, d2⟩ := hd k hkl
      have kl : (k : Int) < (L.length : Int) := by omega
      have g1 := World.block_lt_of_cell? w _ d1
      have e1 := (hB.out.cell (p := ⟨g, off + k * 2, none⟩) (by simpa using g1)).trans d1
      have e2 := (hB.out.cell (p := ⟨g, off + k * 2 + 1, none⟩) (by simpa using g1)).trans d2
      have HQ : Hid (∀ w1 : World, Below w.heap.size w w1 → w1.cell? ⟨g, off + k * 2, none⟩ = some (.int .i32 (L.getD k (0, 0)).1)) := fun w1 hb => (hb.cell (p := ⟨g, off + k * 2, none⟩) (by simpa using g1)).trans d1
      clear d1 d2 hd g1 HC
      obtain ⟨m1, m2, m3⟩ := may_iff.1 (HM.out _ (get_mem L k hkl))
      have hdr : Hid (L.drop k = L.getD k (0, 0) :: L.drop (k + 1)) := by
        rw [Hid, List.drop_eq_getElem_cons hkl]; simp [List.getD, List.getElem?_eq_getElem hkl]
      generalize L.getD k (0, 0) = s at *
      obtain ⟨x, y⟩ := s
      simp only at m1 m2 m3
      have f1 : IntKind.i32.wrap (y - x) = y - x := IntWalk.i32_in _ (by omega)
      have f2 : IntKind.i64.wrap (y - x) = y - x := IntWalk.i64_in _ (by omega)
      have f3 : IntKind.i64.wrap (y - x + 1) = y - x + 1 := IntWalk.i64_in _ (by omega)
      have B2 : Hid (∀ n, Below w.heap.size w (wr.drewN n)) := fun n => hB.out.trans (below_drewN _ _ _)
      by_cases c1 : i' < y - x + 1
      · have hE2 : Hid (x + i' = atL L i) := by rw [Hid, ← hE.out, hdr.out, at_cons, if_pos (show i' < szI (x, y) from c1)]
        have hcv : IntKind.i32.wrap i' = i' := IntWalk.i32_in _ (by omega)
        clear hE hdr
        go_wp2_with fail
        go_quiet (fail)
        have e5 := HQ.out _ (B2.out nq)
        go_wp2
        go_ret
        exact ⟨by rw [← hE2.out]; rfl, B2.out _⟩
      · have c1' : decide (i' < y - x + 1) = false := decide_eq_false c1
        have hE2 : Hid (atL (L.drop (k + 1)) (i' - (y - x + 1)) = atL L i) := by
          have := hE.out
          rw [hdr.out, at_cons, if_neg (show ¬ i' < szI (x, y) from c1)] at this
          exact this
        have hge : 0 ≤ i' - (y - x + 1) := by omega
        clear hE hdr c1
        go_wp2_with fail
        go_quiet (fail)
        go_wp2
        refine ⟨⟨k + 1, i' - (y - x + 1), by omega, by go_num, by go_num, hge, by omega, hE2.out, B2.out _⟩, by simp [intOf]; omega⟩
    · have hkk : k = L.length := by omega
      subst hkk
      have hE2 : Hid (atL L i = -1) := by have := hE.out; rw [List.drop_length] at this; exact this.symm
      clear hE
      go_wp2
      go_ret
      exact ⟨by rw [hE2.out]; rfl, hB.out⟩
theorem rat_no (i : Int) (v : Value) (w : World) (hi : i < 0) : Calls Try.prog 10 #[v, .int .i64 i] w fun e w' => e = .returned (.int .i32 (-1)) ∧ Below w.heap.size w w' := by
  go_enter Try.func10, Try.ntmps10
  go_wp2
  go_ret
  exact ⟨rfl, Below.refl _ _⟩
end Go.Proofs.Ytddoanmhikldiab
