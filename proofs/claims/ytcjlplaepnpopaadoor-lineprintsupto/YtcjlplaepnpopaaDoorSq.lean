/-
  Code points that a field says: the document's answer.
-/
import Derived.Test.YtcjlplaepnpopaaDoorRp
import Derived.Test.YtcjlplaepnpopaaDoorCu
import Derived.Laws.AppendOwn
import Derived.Deep.DeepMust
namespace Go.Proofs.YtcjlplaepnpopaaDoor
open Go.RowKit
theorem info21 : (Tryd.prog.info? 21).map (fun i => (i.zero, i.size, i.bytes)) = some (some (.int .i32 0), 1, 4) := by kernel_rfl
/-- An append of one number to a row of the call's own. -/
theorem wpList_appL {ops : Array Oper} {rest : List Oper} {o : Oper} {a : Act} {Q : Exit → Act → World → Prop} {W : World} (hgd : o.guard = none) (s x : Operand) (t : TypeId)
    (ho : o.op = .call { callee := .builtin .append, args := #[s, x], argTypes := #[t, t] })
    (b : Nat) (e : TypeId) (kd : IntKind) (nb : Nat) (ht : Tryd.prog.underlying t = some (.slice e)) (hi : (Tryd.prog.info? e).map (fun i => (i.zero, i.size, i.bytes)) = some (some (.int kd 0), 1, nb)) (hnb : nb ≤ 8)
    (v : Value) (zs : List Int) (z : Int) (hs : a.eval s = v) (hown : Rw kd e b W v zs) (hx : a.eval x = .slice (some ⟨W.heap.size, 0, none⟩) 1 1) (hlen : zs.length < 10000000000000) (hb : b ≤ W.heap.size)
    (h : ∀ v' w', Hid (Rw kd e b w' v' (zs ++ [z])) → Hid (W.grownBy w' v.ownBlock) → Hid (Below b W w') → wpList Tryd.prog ops Q rest (a.put o.dst v') w') :
    wpList Tryd.prog ops Q (o :: rest) a (W.alloc (.cells #[.int kd z] e)) := by
  obtain ⟨i0, hi, hz0, hz1, hz2⟩ := info_parts hi
  refine wpList_append_own _ hgd _ _ t ho b e i0 (.int kd 0) 1 nb ht hi hz0 hz1 hz2 rfl (by decide) v zs.length _ hs (hown.alloc _) ⟨W.heap.size, 0, none⟩ 1 1 [.int kd z] hx rfl (cells_new W #[.int kd z] e) (by simp [Value.oneCell']) (by unfold maxLen; omega) (Nat.le_trans (Nat.mul_le_mul (show zs.length + 1 ≤ 10000000000000 by omega) hnb) (by decide)) (by simp; omega) ?_
  intro v' w' h1 h2 _
  refine h v' w' ?_ (grown_alloc h2) (grown_below hb hown h2)
  unfold Hid Rw
  rw [List.map_append, List.length_append]
  exact h1
/-- A list of texts, read. -/
def Rd9 (w : World) (v : Value) (L : List ByteArray) : Prop := ∃ a c, v = .slice a L.length c ∧ (0 < L.length → ∃ g, a = some ⟨g, 0, none⟩ ∧ ∀ j, j < L.length → w.cell? ⟨g, j, none⟩ = some (.string (L.getD j ⟨#[]⟩)))
theorem RwS.rd {b : Nat} {w : World} {v : Value} {L : List ByteArray} (h : RwS b w v L) : Rd9 w v L := by
  obtain ⟨a, c, e, ha⟩ := owns_slice h
  refine ⟨a, c, e, fun h0 => ?_⟩
  obtain ⟨g, rfl⟩ := ha h0
  refine ⟨g, rfl, fun j hj => owns_cell h e j _ ?_⟩
  simp [List.getD, List.getElem?_eq_getElem hj]
theorem Rd9.below {w w' : World} {v : Value} {L : List ByteArray} (h : Rd9 w v L) (hb : Below w.heap.size w w') : Rd9 w' v L := by
  obtain ⟨a, c, e, ha⟩ := h
  refine ⟨a, c, e, fun h0 => ?_⟩
  obtain ⟨g, e2, hc⟩ := ha h0
  refine ⟨g, e2, fun j hj => ?_⟩
  have := World.block_lt_of_cell? w _ (hc j hj)
  exact (hb.cell (p := ⟨g, j, none⟩) this).trans (hc j hj)
/-- The code points that words say, behind those that came before; or how many came before the first word that is none. -/
def sqF : List ByteArray → List Int → List Int ⊕ Nat
  | [], o => .inl o
  | x :: L, o => if x.size = 0 then sqF L o else match ptN x with
    | some p => sqF L (o ++ [(p : Int)])
    | none => .inr o.length
def sq (s : ByteArray) : List Int ⊕ Nat := sqF (cutL s 32) []
def SqIs (r : List Int ⊕ Nat) (e : Ending) (w : World) : Prop := ∃ v, match r with
  | .inl o => e = .returned (.tuple #[v, .int .i64 0, .int .i64 0]) ∧ Rds .i32 w v o
  | .inr k => e = .returned (.tuple #[v, .int .i64 (k : Int), .int .i64 90]) ∧ Rds .i32 w v []
theorem toList_nil (x : ByteArray) : (x.toList == []) = decide (x.size = 0) := by
  rw [← empty_is]
  cases x.toList <;> rfl
theorem cutL_len (s : ByteArray) (c : Nat) : (cutL s c).length ≤ s.size + 1 := by
  have := (cutA_le s c s.size).1
  simp only [cutL, List.length_append, List.length_singleton]
  omega
theorem sqF_drop {L : List ByteArray} {i : Nat} (h : i < L.length) (o : List Int) : sqF (L.drop i) o = if (L.getD i ⟨#[]⟩).size = 0 then sqF (L.drop (i + 1)) o else match ptN (L.getD i ⟨#[]⟩) with
    | some p => sqF (L.drop (i + 1)) (o ++ [(p : Int)])
    | none => .inr o.length := by
  have e : L.getD i ⟨#[]⟩ = L[i] := by simp [List.getD, List.getElem?_eq_getElem h]
  rw [List.drop_eq_getElem_cons h, sqF, e]
theorem RwS.base {b b' : Nat} {w : World} {v : Value} {L : List ByteArray} (h : RwS b w v L) (hb : b' ≤ b) : RwS b' w v L := by
  obtain ⟨h1, h2 | ⟨g, cap, cur, rfl, h3, h4⟩⟩ := h
  · exact ⟨h1, .inl h2⟩
  · exact ⟨h1, .inr ⟨g, cap, cur, rfl, Nat.le_trans hb h3, h4⟩⟩
/-- An append to a row of numbers leaves a row of texts as it was. -/
theorem RwS.kept {b b' : Nat} {w w' : World} {V v : Value} {L : List ByteArray} {os : List Int} (h : RwS b w v L) (hV : Rw .i32 21 b' w V os) (hg : w.grownBy w' V.ownBlock) : RwS b w' v L := by
  obtain ⟨h1, h2 | ⟨g, cap, cur, rfl, h3, h4, h5⟩⟩ := h
  · exact ⟨h1, .inl h2⟩
  · refine ⟨h1, .inr ⟨g, cap, cur, rfl, h3, (hg.block g (Array.getElem?_eq_some_iff.1 h4).1 fun e => ?_).trans h4, h5⟩⟩
    obtain ⟨k1, k2 | ⟨gV, capV, curV, rfl, k3, k4, k5⟩⟩ := hV
    · rw [k2.1] at e
      cases e
    · have e2 : g = gV := by injection e
      subst e2
      rw [h4] at k4
      injection k4 with k4
      injection k4 with _ k4
      exact absurd k4 (by decide)
set_option maxRecDepth 100000 in
set_option maxHeartbeats 8000000 in
theorem rseq_any (s : ByteArray) (w : World) (hs : s.size < 4000000000000) : Calls Tryd.prog 10 #[.string s] w fun e w' => SqIs (sq s) e w' ∧ Below w.heap.size w w' := by
  have HS : Hid (s.size < 4000000000000) := hs
  have hE0 : Hid (Rw .i32 21 w.heap.size (w.alloc (.cells #[] 21)) (.slice (some ⟨w.heap.size, 0, none⟩) 0 0) []) := ⟨rfl, .inr ⟨_, _, _, rfl, Nat.le_refl _, heap_new _ _, by simp, by decide, rfl, rfl⟩⟩
  have hB0 : Hid (Below w.heap.size w (w.alloc (.cells #[] 21))) := (Below.refl _ _).alloc (Nat.le_refl _) _
  have k24 := fun w => cut_any s w hs
  have hL := cutL_len s 32
  obtain ⟨R, eR⟩ : ∃ R, sq s = R := ⟨_, rfl⟩
  have hsq : sqF (cutL s 32) [] = R := eR
  rw [eR]
  obtain ⟨L, eL⟩ : ∃ L, cutL s 32 = L := ⟨_, rfl⟩
  simp only [eL] at k24
  rw [eL] at hL hsq
  have HL : Hid (L.length < 5000000000000) := by show _ < _; omega
  have HQ : Hid (sqF (L.drop 0) [] = R) := by rw [List.drop_zero]; exact hsq
  clear hs eR hsq eL hL
  go_enter Tryd.func10, Tryd.ntmps10
  go_wp2_with (go_at_call 24; refine (k24 _).mono ?_)
  rintro e w' ⟨v, rfl, hR, hB⟩
  have HR : Hid (RwS w.heap.size w' v L) := hR.base (by simp)
  have HE : Hid (Rw .i32 21 w.heap.size w' (.slice (some ⟨w.heap.size, 0, none⟩) 0 0) []) := hE0.out.below (hB.mono (Nat.le_refl _))
  have HB : Hid (Below w.heap.size w w') := hB0.out.trans (hB.mono hB0.out.size)
  clear hR hB hE0 hB0 k24
  obtain ⟨wa, hwa⟩ : ∃ wa, w' = wa := ⟨_, rfl⟩
  rw [hwa] at HR HE HB ⊢
  clear hwa
  have hlen : ∃ a c, v = .slice a L.length c := by obtain ⟨a, c, e, -⟩ := HR.out.rd; exact ⟨a, c, e⟩
  obtain ⟨av, cv, rfl⟩ := hlen
  go_wp2
  go_loopw [5, 7, 8] (fun o n x wr => ∃ (i : Nat) (os : List Int), x = .int .i64 (i : Int) ∧ i ≤ L.length ∧ os.length ≤ i ∧ n = .int .i64 (os.length : Nat) ∧ Hid (sqF (L.drop i) os = R) ∧ Hid (Rw .i32 21 w.heap.size wr o os) ∧ Hid (RwS w.heap.size wr (.slice av L.length cv) L) ∧ Hid (Below w.heap.size w wr)) (fun _ _ x _ => L.length - (RowKit.intOf x).toNat)
  case atStart => exact ⟨0, [], rfl, Nat.zero_le _, Nat.le_refl _, rfl, HQ, HE, HR, HB⟩
  case round =>
    clear HQ HE HR HB
    obtain ⟨wo, hwo⟩ : ∃ wo, wr = wo := ⟨_, rfl⟩
    rw [hwo] at hrel ⊢
    clear hwo
    obtain ⟨i, os, rfl, hi, hos, hn, hQ, hR, hD, hB⟩ := hrel
    obtain ⟨V, hV⟩ : ∃ V, u5 = V := ⟨_, rfl⟩
    rw [hV] at hR ⊢
    clear hV
    subst hn
    obtain ⟨N, hN⟩ : ∃ N, os.length = N := ⟨_, rfl⟩
    have HNN : Hid (os.length = N) := hN
    rw [hN] at hos ⊢
    clear hN
    have i9 : (i : Int) ≤ 5000000000000 := by have := HL.out; omega
    have n9 : (N : Int) ≤ 5000000000000 := by have := HL.out; omega
    by_cases c : i < L.length
    · have c0 : (i : Int) < (L.length : Int) := by omega
      have c1 : decide ((i : Int) < (L.length : Int)) = true := decide_eq_true c0
      have hst := sqF_drop c os
      rw [hQ.out] at hst
      obtain ⟨a', c', e', ha⟩ := hD.out.rd
      cases e'
      obtain ⟨g, rfl, hcell⟩ := ha (by omega)
      have y1 := hcell i c
      clear hcell ha
      obtain ⟨X, eX⟩ : ∃ X, L.getD i ⟨#[]⟩ = X := ⟨_, rfl⟩
      rw [eX] at hst y1
      have hem := empty_is X
      have hem2 := toList_nil X
      have k6 := fun w => rpoint_any X w
      clear eX
      by_cases d : X.size = 0
      · rw [if_pos d] at hst
        rw [decide_eq_true d] at hem hem2
        have HX : Hid (sqF (L.drop (i + 1)) os = R) := hst.symm
        clear hst k6 d
        go_wp2
        refine ⟨⟨i + 1, os, by simp, by omega, by have := HNN.out; omega, by rw [HNN.out], HX, hR, hD, hB⟩, ?_⟩
        simp [RowKit.intOf]; omega
      · rw [if_neg d] at hst
        rw [decide_eq_false d] at hem hem2
        cases hp : ptN X with
        | none =>
          rw [hp] at hst k6
          simp only [ptA] at k6
          have HX : Hid (R = .inr N) := by show _ = _; rw [hst, HNN.out]
          clear hst hp d
          go_wp2_with (go_at_call 6; refine (k6 _).mono ?_)
          rintro e w2 ⟨rfl, hb2⟩
          have HB2 : Hid (Below w.heap.size w w2) := hB.out.trans (hb2.mono hB.out.size)
          clear hb2 k6
          go_wp2
          have HZ : Hid (SqIs R (.returned (.tuple #[.slice (some ⟨w2.heap.size, 0, none⟩) 0 0, .int .i64 (N : Int), .int .i64 90])) (w2.alloc (.cells #[] 21))) := by
            refine ⟨.slice (some ⟨w2.heap.size, 0, none⟩) 0 0, ?_⟩
            rw [HX.out]
            exact ⟨rfl, ⟨_, _, rfl, fun h => by simp at h⟩⟩
          exact bodyPost_ret (v := .tuple #[.slice (some ⟨w2.heap.size, 0, none⟩) 0 0, .int .i64 (N : Int), .int .i64 90]) (by simp [results, Tryd.results10, go_sem]) rfl ⟨HZ.out, HB2.out.alloc HB2.out.size _⟩
        | some p =>
          rw [hp] at hst k6
          simp only [ptA] at k6
          have HX : Hid (sqF (L.drop (i + 1)) (os ++ [(p : Int)]) = R) := hst.symm
          have hl : os.length < 10000000000000 := by have := HNN.out; have := HL.out; omega
          clear hst hp d
          go_wp2_with (go_at_call 6; refine (k6 _).mono ?_)
          rintro e w2 ⟨rfl, hb2⟩
          have HB2 : Hid (Below w.heap.size w w2) := hB.out.trans (hb2.mono hB.out.size)
          have HR2 : Hid (Rw .i32 21 w.heap.size w2 V os) := hR.out.below hb2
          have HD2 : Hid (RwS w.heap.size w2 (.slice (some ⟨g, 0, none⟩) L.length cv) L) := hD.out.below hb2
          have ho2 : w.heap.size ≤ w2.heap.size := HB2.out.size
          clear hb2 k6 hR hD hB
          go_wp2_with (at_builtin; go_must (refine wpList_appL rfl _ _ 33 rfl w.heap.size 21 .i32 4 Tryd.underlying33 info21 (by decide) V os (p : Int) rfl HR2.out rfl hl ho2 ?_))
          intro v' w3 hR3 hG3 hB3
          have HB3 : Hid (Below w.heap.size w w3) := HB2.out.trans hB3.out
          have HD3 : Hid (RwS w.heap.size w3 (.slice (some ⟨g, 0, none⟩) L.length cv) L) := HD2.out.kept HR2.out hG3.out
          clear hB3 hG3 HR2 HD2 HB2 hl ho2
          go_wp2
          refine ⟨⟨i + 1, os ++ [(p : Int)], by simp, by omega, by simp only [List.length_append, List.length_singleton]; have := HNN.out; omega, by simp only [List.length_append, List.length_singleton, HNN.out]; simp, HX, hR3, HD3, HB3⟩, ?_⟩
          simp [RowKit.intOf]; omega
    · obtain rfl : i = L.length := by omega
      have c1 : decide ((L.length : Int) < (L.length : Int)) = false := by simp
      have HX : Hid (R = .inl os) := by show _ = _; rw [← hQ.out, List.drop_length, sqF]
      clear hQ
      go_wp2
      refine bodyPost_ret (v := .tuple #[V, .int .i64 0, .int .i64 0]) (by simp [results, Tryd.results10, go_sem]) rfl ⟨⟨V, ?_⟩, hB.out⟩
      rw [HX.out]
      exact ⟨rfl, hR.out.rds⟩
end Go.Proofs.YtcjlplaepnpopaaDoor
