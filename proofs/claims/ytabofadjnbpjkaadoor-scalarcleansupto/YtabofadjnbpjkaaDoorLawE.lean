/-
  The walk of the law ScalarEncodes: it returns true and turns nothing that was there. Conditions: the list takes no more bytes than one that comes in can; the library's two tables hold what their text lays.
-/
import Derived.Test.YtabofadjnbpjkaaDoorUn
import Derived.Laws.AppendOwnNone
import Derived.OpenShut
namespace Go.Proofs.YtabofadjnbpjkaaDoor
open Go.RowKit Go.Lib
/-- A slice that came in and reads as these numbers. -/
def RdsA (kd : IntKind) (w : World) (v : Value) (zs : List Int) : Prop :=
  (v = .slice none 0 0 ∧ zs = []) ∨ ∃ ad c, v = .slice (some ad) zs.length c ∧ ∀ j, j < zs.length → w.cell? (ad.add j) = some (.int kd (zs.getD j 0))
theorem RdsA.rds {kd : IntKind} {w : World} {v : Value} {zs : List Int} (h : RdsA kd w v zs) : Rds kd w v zs := by
  obtain ⟨rfl, rfl⟩ | ⟨ad, c, rfl, h⟩ := h
  · exact rds_nil _ _ _ _
  · refine ⟨_, c, rfl, fun hp => ?_⟩
    obtain ⟨b, off, rfl, hc⟩ := ints_at h hp
    exact ⟨b, off, rfl, hc⟩
theorem RdsA.below {kd : IntKind} {w w' : World} {v : Value} {zs : List Int} (h : RdsA kd w v zs) (hb : Below w.heap.size w w') : RdsA kd w' v zs := by
  obtain ⟨rfl, rfl⟩ | ⟨ad, c, rfl, h⟩ := h
  · exact .inl ⟨rfl, rfl⟩
  · refine .inr ⟨ad, c, rfl, fun j hj => ?_⟩
    have := World.block_lt_of_cell? w _ (h j hj)
    exact (hb.cell this).trans (h j hj)
/-- 'append' of a list that came in onto an empty one of the call's own. -/
theorem wpList_append_rds {w : World} {ops : Array Oper} {rest : List Oper} {o : Oper} {a : Act} {Q : Exit → Act → World → Prop} (hgd : o.guard = none) (s x : Operand) (t e : TypeId) (kd : IntKind) (bytes : Nat)
    (ho : o.op = .call { callee := .builtin .append, args := #[s, x], argTypes := #[t, t] }) (base : Nat) (i : TypeInfo) (ht : Tryd.prog.underlying t = some (.slice e)) (hi : Tryd.prog.info? e = some i) (hz : i.zero = some (.int kd 0)) (h1 : i.size = 1) (h2 : i.bytes = bytes)
    (v0 v : Value) (zs : List Int) (hs : a.eval s = v0) (hown : w.ownsRow base e 1 v0 0 []) (hx : a.eval x = v) (hr : RdsA kd w v zs) (hl : zs.length ≤ 140737488355328) (hlb : zs.length * bytes ≤ 140737488355328) (hb : base ≤ w.heap.size)
    (K : ∀ v' w', w'.ownsRow base e 1 v' zs.length (zs.map fun z => Value.int kd z) → Below base w w' → wpList Tryd.prog ops Q rest (a.put o.dst v') w') : wpList Tryd.prog ops Q (o :: rest) a w := by
  obtain ⟨rfl, rfl⟩ | ⟨ad, c, rfl, h⟩ := hr
  · exact wpList_append_own_none hgd s x t ho base e i 1 ht hi v0 0 [] hs hown hx (K _ _ hown (Below.refl _ _))
  · refine wpList_append_own _ hgd s x t ho base e i (.int kd 0) 1 bytes ht hi hz h1 h2 rfl (by decide) v0 0 [] hs hown ad zs.length c (zs.map fun z => Value.int kd z) hx (by simp) (fun j u hj => ?_) (by simp [Value.oneCell']) (by unfold maxLen; omega) (by rw [Nat.zero_add]; exact hlb) hb (fun v' w' ho' hg' _ => K v' w' ?_ ?_)
    · have hj' : j < zs.length := by have := (List.getElem?_eq_some_iff.1 hj).1; simpa using this
      rw [h j hj']
      rw [← hj]
      simp [List.getD, List.getElem?_eq_getElem hj']
    · rw [Nat.zero_add] at ho'
      exact ho'
    · exact (Below.refl base w).grown hg' hb (fun j hj => (hown.lt j hj).1)
theorem own_empty (w : World) (e : TypeId) : (w.alloc (.cells #[] e)).ownsRow w.heap.size e 1 (.slice (some ⟨w.heap.size, 0, none⟩) 0 0) 0 [] := ⟨rfl, .inr ⟨_, _, _, rfl, Nat.le_refl _, World.alloc_heap_new _ _, by simp, by decide, rfl, rfl⟩⟩
set_option maxRecDepth 100000 in
set_option maxHeartbeats 2000000 in
theorem lawE (zs : List Int) (v : Value) (w : World) (hz : 4 * zs.length ≤ 140737488355328) (h : RdsA .i32 w v zs) (hT : Utf8Tabs 0 1 w) (hg : 2 ≤ w.heap.size) : Calls Tryd.prog 6 #[v] w fun e w' => e = .returned (.bool true) ∧ Below w.heap.size w w' := by
  obtain ⟨i0, hi, hz0, hz1, hz2⟩ := info_parts info21
  have k0 := awake_any w hT hg
  go_enter Tryd.func6, Tryd.ntmps6
  go_wp2_with fail
  refine k0.mono ?_
  rintro e w1 ⟨rfl, b1⟩
  have z1 := b1.size
  have HA : Hid (RdsA .i32 (w1.alloc (.cells #[] 21)) v zs) := (h.below b1).below ((Below.refl _ _).alloc (Nat.le_refl _) _)
  clear k0 hT
  go_wp2_with (at_builtin; go_must (refine wpList_append_rds rfl _ _ 26 21 .i32 4 rfl w1.heap.size i0 Tryd.underlying26 hi hz0 hz1 hz2 _ v zs rfl (own_empty w1 21) rfl HA.out (by omega) (by omega) (by simp) ?_))
  intro v3 w3 ho3 hb3
  have B3 : Below w.heap.size w w3 := (b1.alloc z1 (.cells #[] 21)).trans (hb3.mono z1)
  have z3 := B3.size
  have R3 : Hid (Rds .i32 w3 v3 zs) := Rds.of_owns ho3
  have A3 : Hid (Rds .i32 w3 v zs) := (h.below B3).rds
  have HB3 : Hid (Below w.heap.size w w3) := B3
  have k3 := enc_any zs v3 w3 (by omega) R3.out
  clear ho3 hb3 HA B3 b1 h
  have hE : ∃ x y z, encA zs = .tuple #[.string x, .int .i64 y, .int .i64 z] := by unfold encA; split <;> exact ⟨_, _, _, rfl⟩
  obtain ⟨eS, eP, eE, hE⟩ := hE
  rw [hE] at k3
  have k4 := renc_any zs v w3 (by omega) A3.out
  rw [hE] at k4
  clear hE
  go_wp2_with (first | (go_at_call 23; refine k3.mono ?_; rintro e w' ⟨rfl, rfl⟩) | (go_at_call 24; refine k4.mono ?_; rintro e w4 ⟨rfl, b4⟩))
  have z4 := b4.size
  have HB4 : Hid (Below w.heap.size w w4) := HB3.out.trans (b4.mono z3)
  have R4 : Hid (Rds .i32 w4 v3 zs) := R3.out.below b4
  have A4 : Hid (Rds .i32 w4 v zs) := A3.out.below b4
  have k5 := units_any zs v3 w4 (by omega) R4.out
  obtain ⟨uP, hP⟩ : ∃ x, unP zs = x := ⟨_, rfl⟩
  obtain ⟨uE, hE⟩ : ∃ x, unE zs = x := ⟨_, rfl⟩
  rw [hP, hE] at k5
  clear k3 k4 R3 A3 HB3 b4
  go_wp2_with (go_at_call 25; refine k5.mono ?_)
  rintro e w5 ⟨u5, rfl, q5, b5⟩
  have z5 := b5.size
  have HB5 : Hid (Below w.heap.size w w5) := HB4.out.trans (b5.mono (by omega))
  have R5 : Hid (Rds .i32 w5 v3 zs) := R4.out.below b5
  have A5 : Hid (Rds .i32 w5 v zs) := A4.out.below b5
  have Q5 : Hid (Rds .u16 w5 u5 (unL zs)) := q5
  have k6 := runits_any zs v w5 (by omega) A5.out
  rw [hP, hE] at k6
  clear k5 R4 A4 HB4 b5 q5 hP hE
  go_wp2_with (go_at_call 26; refine k6.mono ?_)
  rintro e w6 ⟨u6, rfl, q6, b6⟩
  have z6 := b6.size
  have HB6 : Hid (Below w.heap.size w w6) := HB5.out.trans (b6.mono (by omega))
  have R6 : Hid (Rds .i32 w6 v3 zs) := R5.out.below b6
  have A6 : Hid (Rds .i32 w6 v zs) := A5.out.below b6
  have hlu := unL_len zs
  have k7 := units_rds (unL zs) u5 u6 w6 (Q5.out.below b6) q6 (by omega)
  clear k6 R5 A5 HB5 b6 q6 Q5
  have e2 : (eP == eP) = true := beq_self_eq_true _
  have e3 : (eE == eE) = true := beq_self_eq_true _
  have e4 : (uP == uP) = true := beq_self_eq_true _
  have e5 : (uE == uE) = true := beq_self_eq_true _
  go_wp2_with (go_at_call 27; refine k7.mono ?_)
  rintro e w7 ⟨rfl, b7⟩
  have z7 := b7.size
  have k8 := same_rds zs v3 v w7 (R6.out.below b7) (A6.out.below b7) (by omega)
  have HB7 : Hid (Below w.heap.size w w7) := HB6.out.trans (b7.mono (by omega))
  clear k7 R6 A6 HB6 b7
  go_wp2_with (go_at_call 14; refine k8.mono ?_; rintro e w8 ⟨rfl, b8⟩)
  go_ret
  exact ⟨rfl, HB7.out.trans (b8.mono (by omega))⟩
end Go.Proofs.YtabofadjnbpjkaaDoor
