/-
  The law PunyEncodes.
-/
import Derived.Test.YtahmeejcgddlhaaRj
import Derived.Test.YtahmeejcgddlhaaQp
import Derived.Laws.AppendOwnNone
import Derived.OpenShut
import Derived.Deep.DeepMust
namespace Go.Proofs.Ytahmeejcgddlhaa
open Go.RowKit
/-- A slice that came in and reads as these numbers. -/
def RdsA (kd : IntKind) (w : World) (v : Value) (zs : List Int) : Prop :=
  (v = .slice none 0 0 ∧ zs = []) ∨ ∃ ad c, v = .slice (some ad) zs.length c ∧ ∀ j, j < zs.length → w.cell? (ad.add j) = some (.int kd (zs.getD j 0))
theorem RdsA.rds {kd : IntKind} {w : World} {v : Value} {zs : List Int} (h : RdsA kd w v zs) : Rds kd w v zs := by
  obtain ⟨rfl, rfl⟩ | ⟨ad, c, rfl, h⟩ := h
  · exact ⟨none, 0, rfl, fun h => by simp at h⟩
  · refine ⟨_, c, rfl, fun hp => ?_⟩
    obtain ⟨b, off, rfl, hc⟩ := ints_at h hp
    exact ⟨b, off, rfl, hc⟩
theorem RdsA.below {kd : IntKind} {w w' : World} {v : Value} {zs : List Int} (h : RdsA kd w v zs) (hb : Below w.heap.size w w') : RdsA kd w' v zs := by
  obtain ⟨rfl, rfl⟩ | ⟨ad, c, rfl, h⟩ := h
  · exact .inl ⟨rfl, rfl⟩
  · refine .inr ⟨ad, c, rfl, fun j hj => ?_⟩
    have := World.block_lt_of_cell? w _ (h j hj)
    exact (hb.cell this).trans (h j hj)
/-- 'append' of a list that came in onto an empty one of the call's own. -/
theorem wpList_append_rds {w : World} {ops : Array Oper} {rest : List Oper} {o : Oper} {a : Act} {Q : Exit → Act → World → Prop} (hgd : o.guard = none) (s x : Operand) (t e : TypeId) (kd : IntKind) (bytes : Nat)
    (ho : o.op = .call { callee := .builtin .append, args := #[s, x], argTypes := #[t, t] }) (base : Nat) (i : TypeInfo) (ht : Try.prog.underlying t = some (.slice e)) (hi : Try.prog.info? e = some i) (hz : i.zero = some (.int kd 0)) (h1 : i.size = 1) (h2 : i.bytes = bytes)
    (v0 v : Value) (zs : List Int) (hs : a.eval s = v0) (hown : w.ownsRow base e 1 v0 0 []) (hx : a.eval x = v) (hr : RdsA kd w v zs) (hl : zs.length ≤ 140737488355328) (hlb : zs.length * bytes ≤ 140737488355328) (hb : base ≤ w.heap.size)
    (K : ∀ v' w', w'.ownsRow base e 1 v' zs.length (zs.map fun z => Value.int kd z) → Below base w w' → wpList Try.prog ops Q rest (a.put o.dst v') w') : wpList Try.prog ops Q (o :: rest) a w := by
  obtain ⟨rfl, rfl⟩ | ⟨ad, c, rfl, h⟩ := hr
  · exact wpList_append_own_none hgd s x t ho base e i 1 ht hi v0 0 [] hs hown hx (K _ _ hown (Below.refl _ _))
  · refine wpList_append_own _ hgd s x t ho base e i (.int kd 0) 1 bytes ht hi hz h1 h2 rfl (by decide) v0 0 [] hs hown ad zs.length c (zs.map fun z => Value.int kd z) hx (by simp) (fun j u hj => ?_) (by simp [Value.oneCell']) (by unfold maxLen; omega) (by rw [Nat.zero_add]; exact hlb) hb (fun v' w' ho' hg' _ => K v' w' ?_ ?_)
    · have hj' : j < zs.length := by have := (List.getElem?_eq_some_iff.1 hj).1; simpa using this
      rw [h j hj']
      rw [← hj]
      simp [List.getD, List.getElem?_eq_getElem hj']
    · rw [Nat.zero_add] at ho'
      exact ho'
    · exact (Below.refl base w).grown hg' hb (fun j hj => (hown.lt j hj).1)
theorem own_empty (w : World) (e : TypeId) : (w.alloc (.cells #[] e)).ownsRow w.heap.size e 1 (.slice (some ⟨w.heap.size, 0, none⟩) 0 0) 0 [] := ⟨rfl, .inr ⟨_, _, _, rfl, Nat.le_refl _, heap_new _ _, by simp, by decide, rfl, rfl⟩⟩
/-- Encode, by the program and by the document, says the same. -/
theorem encP_any (zs os : List Int) (v : Value) (w : World) (hz : zs.length < 1048577) (hS : SrtL (KZ zs) (osL usual zs zs.length) os) (h : Rds .i32 w v zs) : Calls Try.prog 10 #[v] w fun e w' => Hid (e = encV (encT zs os) ∧ Below w.heap.size w w') :=
  (Encode_any zs v w hz h).mono fun _ _ ⟨h1, h2⟩ => ⟨enA_is zs os _ hS h1, h2⟩
theorem encD_any (zs os : List Int) (v : Value) (w : World) (hz : zs.length < 1048577) (hS : SrtL (KZ zs) (osL usual zs zs.length) os) (h : Rds .i32 w v zs) : Calls Try.prog 11 #[v] w fun e w' => Hid (e = encV (encT zs os) ∧ Below w.heap.size w w') :=
  (rEncode_any zs os v w hz h hS).mono fun _ _ ⟨h1, h2⟩ => ⟨rnA_is zs os _ hS h1, h2⟩
theorem sorted (zs : List Int) : ∃ os, SrtL (KZ zs) (osL usual zs zs.length) os := sort_is (KZ zs) _ (osL_asc usual zs zs.length)
set_option maxRecDepth 100000 in
set_option maxHeartbeats 2000000 in
theorem law_encodes (zs : List Int) (v : Value) (w : World) (hz : zs.length < 1048577) (h : RdsA .i32 w v zs) : Calls Try.prog 3 #[v] w fun e w' => e = .returned (.bool true) ∧ Below w.heap.size w w' := by
  obtain ⟨i0, hi, hz0, hz1, hz2⟩ := info_parts info21
  obtain ⟨os, hS⟩ := sorted zs
  have k0 := awake_any w
  have HA0 : Hid (RdsA .i32 w v zs) := h
  have HZ : Hid (zs.length < 1048577) := hz
  have HS : Hid (SrtL (KZ zs) (osL usual zs zs.length) os) := hS
  clear h hS
  go_enter Try.func3, Try.ntmps3
  go_wp2_with (go_at_call 9; refine (calls_hid k0).mono ?_)
  intro _ w1 hq
  obtain ⟨rfl, b1⟩ := hq.out
  have z1 := b1.size
  have HB1 : Hid (Below w.heap.size w w1) := b1
  have HA : Hid (RdsA .i32 (w1.alloc (.cells #[] 21)) v zs) := (HA0.out.below b1).below ((Below.refl _ _).alloc (Nat.le_refl _) _)
  clear k0 hq b1
  go_wp2_with (at_builtin; go_must (refine wpList_append_rds rfl _ _ 22 21 .i32 4 rfl w1.heap.size i0 Try.underlying22 hi hz0 hz1 hz2 _ v zs rfl (own_empty w1 21) rfl HA.out (by omega) (by omega) (by simp) ?_))
  intro v3 w3 ho3 hb3
  have HB3 : Hid (Below w.heap.size w w3) := (HB1.out.alloc z1 (.cells #[] 21)).trans (hb3.mono z1)
  have R3 : Hid (Rds .i32 w3 v3 zs) := Rw.rds (kd := .i32) (e := 21) (b := w1.heap.size) ho3
  have A3 : Hid (Rds .i32 w3 v zs) := (HA0.out.below HB3.out).rds
  obtain ⟨r, hr⟩ : ∃ r, encT zs os = r := ⟨_, rfl⟩
  have k10 := encP_any zs os v3 w3 HZ.out HS.out R3.out
  have k11 := fun w4 (hb : Below w3.heap.size w3 w4) => encD_any zs os v w4 HZ.out HS.out (A3.out.below hb)
  simp only [hr] at k10 k11
  obtain ⟨S, P, E⟩ := r
  unfold encV at k10 k11
  simp only at k10 k11
  clear ho3 hb3 HA HB1 hr HA0
  go_wp2_with (go_at_call 10; refine k10.mono ?_)
  intro _ w4 hq
  obtain ⟨rfl, b4⟩ := hq.out
  have k11b := k11 w4 b4
  have HB4 : Hid (Below w.heap.size w w4) := HB3.out.trans (b4.mono HB3.out.size)
  have R4 : Hid (Rds .i32 w4 v3 zs) := R3.out.below b4
  have A4 : Hid (Rds .i32 w4 v zs) := A3.out.below b4
  clear hq b4 k10 k11 R3 A3 HB3
  go_wp2_with (go_at_call 11; refine k11b.mono ?_)
  intro _ w5 hq
  obtain ⟨rfl, b5⟩ := hq.out
  have HB5 : Hid (Below w.heap.size w w5) := HB4.out.trans (b5.mono HB4.out.size)
  have k12 := sameL_any zs v3 v w5 (R4.out.below b5) (A4.out.below b5) (by have := HZ.out; omega)
  clear hq b5 k11b HB4 R4 A4
  go_wp2_with (go_at_call 12; refine (calls_hid k12).mono ?_)
  intro _ w6 hq
  obtain ⟨rfl, b6⟩ := hq.out
  have HB6 : Hid (Below w.heap.size w w6) := HB5.out.trans (b6.mono HB5.out.size)
  clear hq b6 k12
  go_wp2
  go_ret
  exact ⟨rfl, HB6.out⟩
end Go.Proofs.Ytahmeejcgddlhaa
