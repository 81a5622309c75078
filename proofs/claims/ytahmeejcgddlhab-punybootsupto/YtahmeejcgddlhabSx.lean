/-
  The law PunyBoots.
-/
import Derived.Test.YtahmeejcgddlhabSk
import Derived.Test.YtahmeejcgddlhabSe
import Derived.Test.YtahmeejcgddlhabSd
import Derived.Test.YtahmeejcgddlhabOq
import Derived.Laws.AppendOwnNone
import Derived.Deep.DeepMust
import Derived.WalkKit
import Derived.ProofKit
import Derived.OpenShut
namespace Go.Proofs.Ytahmeejcgddlhab
open Go.RowKit
/-- A slice that came in and reads as these numbers. -/
def RdsA (kd : IntKind) (w : World) (v : Value) (zs : List Int) : Prop :=
  (v = .slice none 0 0 ∧ zs = []) ∨ ∃ ad c, v = .slice (some ad) zs.length c ∧ ∀ j, j < zs.length → w.cell? (ad.add j) = some (.int kd (zs.getD j 0))
theorem RdsA.rds {kd : IntKind} {w : World} {v : Value} {zs : List Int} (h : RdsA kd w v zs) : Rds kd w v zs := by
  obtain ⟨rfl, rfl⟩ | ⟨ad, c, rfl, h⟩ := h
  · exact ⟨none, 0, rfl, fun h => by simp at h⟩
  · refine ⟨_, c, rfl, fun hp => ?_⟩
    obtain ⟨b, off, rfl, hc⟩ := ints_at h hp
    exact ⟨b, off, rfl, hc⟩
theorem RdsA.below {kd : IntKind} {w w' : World} {v : Value} {zs : List Int} (h : RdsA kd w v zs) (hb : Below w.heap.size w w') : RdsA kd w' v zs := by
  obtain ⟨rfl, rfl⟩ | ⟨ad, c, rfl, h⟩ := h
  · exact .inl ⟨rfl, rfl⟩
  · refine .inr ⟨ad, c, rfl, fun j hj => ?_⟩
    have := World.block_lt_of_cell? w _ (h j hj)
    exact (hb.cell this).trans (h j hj)
/-- 'append' of a list that came in onto an empty one of the call's own. -/
theorem wpList_append_rds {w : World} {ops : Array Oper} {rest : List Oper} {o : Oper} {a : Act} {Q : Exit → Act → World → Prop} (hgd : o.guard = none) (s x : Operand) (t e : TypeId) (kd : IntKind) (bytes : Nat)
    (ho : o.op = .call { callee := .builtin .append, args := #[s, x], argTypes := #[t, t] }) (base : Nat) (i : TypeInfo) (ht : Try.prog.underlying t = some (.slice e)) (hi : Try.prog.info? e = some i) (hz : i.zero = some (.int kd 0)) (h1 : i.size = 1) (h2 : i.bytes = bytes)
    (v0 v : Value) (zs : List Int) (hs : a.eval s = v0) (hown : w.ownsRow base e 1 v0 0 []) (hx : a.eval x = v) (hr : RdsA kd w v zs) (hl : zs.length ≤ 140737488355328) (hlb : zs.length * bytes ≤ 140737488355328) (hb : base ≤ w.heap.size)
    (K : ∀ v' w', w'.ownsRow base e 1 v' zs.length (zs.map fun z => Value.int kd z) → Below base w w' → wpList Try.prog ops Q rest (a.put o.dst v') w') : wpList Try.prog ops Q (o :: rest) a w := by
  obtain ⟨rfl, rfl⟩ | ⟨ad, c, rfl, h⟩ := hr
  · exact wpList_append_own_none hgd s x t ho base e i 1 ht hi v0 0 [] hs hown hx (K _ _ hown (Below.refl _ _))
  · refine wpList_append_own _ hgd s x t ho base e i (.int kd 0) 1 bytes ht hi hz h1 h2 rfl (by decide) v0 0 [] hs hown ad zs.length c (zs.map fun z => Value.int kd z) hx (by simp) (fun j u hj => ?_) (by simp [Value.oneCell']) (by unfold maxLen; omega) (by rw [Nat.zero_add]; exact hlb) hb (fun v' w' ho' hg' _ => K v' w' ?_ ?_)
    · have hj' : j < zs.length := by have := (List.getElem?_eq_some_iff.1 hj).1; simpa using this
      rw [h j hj']
      rw [← hj]
      simp [List.getD, List.getElem?_eq_getElem hj']
    · rw [Nat.zero_add] at ho'
      exact ho'
    · exact (Below.refl base w).grown hg' hb (fun j hj => (hown.lt j hj).1)
theorem own_empty (w : World) (e : TypeId) : (w.alloc (.cells #[] e)).ownsRow w.heap.size e 1 (.slice (some ⟨w.heap.size, 0, none⟩) 0 0) 0 [] := ⟨rfl, .inr ⟨_, _, _, rfl, Nat.le_refl _, heap_new _ _, by simp, by decide, rfl, rfl⟩⟩

theorem eb_tuple {p : Bt} {zs : List Int} {e : Ending} (h : ebA p zs e) : ∃ s a b, e = .returned (.tuple #[.string s, .int .i64 a, .int .i64 b]) := by
  unfold ebA at h
  split at h
  · exact enA_tuple h
  · exact ⟨_, _, _, h⟩
/-- What DecodeBy answers, in parts. -/
def dbT (p : Bt) (r : (Nat × Int) ⊕ List Int) : List Int × Int × Int :=
  if chk p = true then (match r with | .inl (a, c) => ([], (a : Int), c) | .inr L => (L, 0, 0)) else ([], 0, 144)
theorem rds_nil (w : World) : Rds .i32 w (.slice none 0 0) [] := ⟨none, 0, rfl, fun h => by simp at h⟩
theorem db_form {p : Bt} {r : (Nat × Int) ⊕ List Int} {b : Nat} {e : Ending} {w : World} (h : dbA p r b e w) : ∃ v, e = .returned (.tuple #[v, .int .i64 (dbT p r).2.1, .int .i64 (dbT p r).2.2]) ∧ Rds .i32 w v (dbT p r).1 := by
  unfold dbA at h
  unfold dbT
  split at h
  · rename_i c
    rw [if_pos c]
    rcases r with ⟨a, c⟩ | L
    · rw [dcA] at h
      exact ⟨_, h, rds_nil w⟩
    · obtain ⟨v, h1, h2⟩ := h
      exact ⟨v, h1, h2.rds⟩
  · rename_i c
    rw [if_neg c]
    exact ⟨_, h, rds_nil w⟩
theorem dbT_len {p : Bt} {s : ByteArray} (hs : s.size < 1048577) : (dbT p (decS p s)).1.length < 2097152 := by
  unfold dbT
  split
  · rename_i c
    cases hd : decS p s with
    | inl x => simp
    | inr L => have := decS_len p (chk_ok c).1 s L hd; simp only; omega
  · simp
theorem sorted (p : Bt) (zs : List Int) : ∃ os, SrtL (KZ zs) (osL p zs zs.length) os := sort_is (KZ zs) _ (osL_asc p zs zs.length)
theorem cells_box {p : Bt} {O : Nat} {w w2 : World} (h : BoxI p O w w2) : Cells8 p O w2 := ⟨h.at 0 _ rfl, h.at 1 _ rfl, h.at 2 _ rfl, h.at 3 _ rfl, h.at 4 _ rfl, h.at 5 _ rfl, h.at 6 _ rfl, h.at 7 _ rfl⟩
set_option maxRecDepth 100000 in
set_option maxHeartbeats 8000000 in
theorem law_boots (p : Bt) (zs : List Int) (v : Value) (s : ByteArray) (w : World) (hb : 0 ≤ p.btw) (hb2 : p.btw < 256) (hz : zs.length < 1048577) (hs : s.size < 1048577) (h : RdsA .i32 w v zs) : Calls Try.prog 3 #[.agg (bv p), v, .string s] w fun e w' => e = .returned (.bool true) ∧ Below w.heap.size w w' := by
  obtain ⟨i0, hi, hz0, hz1, hz2⟩ := info_parts info21
  obtain ⟨os, hS⟩ := sorted p zs
  have HA0 : Hid (RdsA .i32 w v zs) := h
  have HZ : Hid (zs.length < 1048577) := hz
  have HP : Hid (0 ≤ p.btw ∧ p.btw < 256) := ⟨hb, hb2⟩
  have HS : Hid (SrtL (KZ zs) (osL p zs zs.length) os) := hS
  have HI0 : Hid (BoxI p w.heap.size w (w.alloc (.cells (bv p) 23))) := ⟨(Below.refl w.heap.size w).alloc (Nat.le_refl _) _, heap_new _ _⟩
  have k5 := awake_any (w.alloc (.cells (bv p) 23))
  have k12 := fun w1 => decodeBy_any p s w1 hb hb2 (by omega) (fun hc L hL => by have := decS_len p (chk_ok hc).1 s L hL; omega)
  have k13 := fun w1 => rdecodeBy_any p s w1 hb hb2 (by omega)
  have hlim := dbT_len (p := p) hs
  obtain ⟨⟨L, AT, CD⟩, hG⟩ : ∃ r, dbT p (decS p s) = r := ⟨_, rfl⟩
  rw [hG] at hlim
  have HL : Hid (L.length < 2097152) := hlim
  have k6 := fun w1 => check_any p w1 hb hb2
  have k7 := fun w1 => rcheck_any p w1 hb hb2
  have k8 := fun w1 => plain_any p w1
  obtain ⟨CK, hCK⟩ : ∃ CK, chk p = CK := ⟨_, rfl⟩
  clear hz hs hb hb2 hS h hlim
  go_enter Try.func3, Try.ntmps3
  go_wp2_with (go_at_call 5; refine (calls_hid k5).mono ?_)
  intro _ w2 hq
  obtain ⟨rfl, b2⟩ := hq.out
  have HI2 : Hid (BoxI p w.heap.size w w2) := HI0.out.step (by simpa using b2)
  have hl : Hid (w2.heap[w.heap.size]? = some (.cells (bv p) 23)) := HI2.out.2
  clear hq b2 k5 HI0
  go_wp2_with fail
  rename_i Q' K1 hc1 K2 hc2
  cases CK with
  | true =>
    simp only [hCK, if_true] at k6 k7
    refine wp_region_vals (a1 := ?a1r3t) (grown _) [.agg (bv p), .int .i64 0, .bool true, .agg (bv p), .agg (bv p), .bool true, .bool false, .bool false, .agg (bv p), .int .i64 0, .bool false, .bool false, undef, undef, undef, .bool false, .bool false] 100 rfl (by kernel_rfl) (by kernel_rfl) (grown_start _) ⟨?o0r3t, ?o1r3t, ?o2r3t, ?o3r3t, ?o4r3t, ?o5r3t, ?o6r3t, ?o7r3t, ?o8r3t, ?o9r3t, ?o10r3t, ?o11r3t, ?o12r3t, ?o13r3t, ?o14r3t, ?o15r3t, ?o16r3t, trivial⟩ ?har3t ?hdoner3t
    case har3t => simp [putAll, Act.put]; exact rfl
    case o0r3t => exact ValOp.pure (grown_steady _ 0) [(3, .pointer (some ⟨w.heap.size, 0, none⟩))] rfl (fun _ _ h2 => ⟨(h2 3 (by kernel_rfl)).trans rfl, trivial⟩) (by kernel_rfl) (fun _ _ _ hg _ => run_read rfl rfl (run_loadVar_row _ _ _ _ _ _ _ (below_at hl.out hg) Try.underlying23 rfl (by kernel_rfl)))
    case o1r3t => exact ValOp.call (grown_steady _ 1) [(18, .agg (bv p))] rfl (fun _ h1 _ => ⟨h1 0 18 (by kernel_rfl), trivial⟩) (by kernel_rfl) 6 #[.agg (bv p)] (fun _ => by kernel_rfl) (fun _ w1 _ => k6 w1)
    case o2r3t => exact ValOp.pure (grown_steady _ 2) [(19, .int .i64 0)] rfl (fun _ h1 _ => ⟨h1 1 19 (by kernel_rfl), trivial⟩) (by kernel_rfl) (fun _ _ _ hg _ => by kernel_rfl)
    case o3r3t => exact ValOp.pure (grown_steady _ 3) [(3, .pointer (some ⟨w.heap.size, 0, none⟩))] rfl (fun _ _ h2 => ⟨(h2 3 (by kernel_rfl)).trans rfl, trivial⟩) (by kernel_rfl) (fun _ _ _ hg _ => run_read rfl rfl (run_loadVar_row _ _ _ _ _ _ _ (below_at hl.out hg) Try.underlying23 rfl (by kernel_rfl)))
    case o4r3t => exact ValOp.call (grown_steady _ 4) [(21, .agg (bv p))] rfl (fun _ h1 _ => ⟨h1 3 21 (by kernel_rfl), trivial⟩) (by kernel_rfl) 8 #[.agg (bv p)] (fun _ => by kernel_rfl) (fun _ w1 _ => k8 w1)
    case o5r3t => exact ValOp.call (grown_steady _ 5) [(22, .agg (bv p))] rfl (fun _ h1 _ => ⟨h1 4 22 (by kernel_rfl), trivial⟩) (by kernel_rfl) 7 #[.agg (bv p)] (fun _ => by kernel_rfl) (fun _ w1 _ => k7 w1)
    case o6r3t => exact ValOp.pure (grown_steady _ 6) [(20, .bool true), (23, .bool true)] rfl (fun _ h1 _ => ⟨h1 2 20 (by kernel_rfl), h1 5 23 (by kernel_rfl), trivial⟩) (by kernel_rfl) (fun _ _ _ hg _ => by kernel_rfl)
    case o7r3t => exact ValOp.pure (grown_steady _ 7) [(24, .bool false)] rfl (fun _ h1 _ => ⟨h1 6 24 (by kernel_rfl), trivial⟩) (by kernel_rfl) (fun _ _ _ hg _ => by kernel_rfl)
    case o8r3t => exact ValOp.pure (grown_steady _ 8) [(3, .pointer (some ⟨w.heap.size, 0, none⟩))] (⟨25, _, rfl, rfl, by kernel_rfl, rfl⟩) (fun _ _ h2 => ⟨(h2 3 (by kernel_rfl)).trans rfl, trivial⟩) (by kernel_rfl) (fun _ _ _ hg _ => run_read rfl rfl (run_loadVar_row _ _ _ _ _ _ _ (below_at hl.out hg) Try.underlying23 rfl (by kernel_rfl)))
    case o9r3t => exact ValOp.call (grown_steady _ 9) [(26, .agg (bv p))] (⟨25, _, rfl, rfl, by kernel_rfl, rfl⟩) (fun _ h1 _ => ⟨h1 8 26 (by kernel_rfl), trivial⟩) (by kernel_rfl) 6 #[.agg (bv p)] (fun _ => by kernel_rfl) (fun _ w1 _ => k6 w1)
    case o10r3t => exact ValOp.pure (grown_steady _ 10) [(27, .int .i64 0)] (⟨25, _, rfl, rfl, by kernel_rfl, rfl⟩) (fun _ h1 _ => ⟨h1 9 27 (by kernel_rfl), trivial⟩) (by kernel_rfl) (fun _ _ _ hg _ => by kernel_rfl)
    case o11r3t => exact ValOp.pure (grown_steady _ 11) [(28, .bool false)] (⟨25, _, rfl, rfl, by kernel_rfl, rfl⟩) (fun _ h1 _ => ⟨h1 10 28 (by kernel_rfl), trivial⟩) (by kernel_rfl) (fun _ _ _ hg _ => by kernel_rfl)
    case o12r3t => exact ValOp.no (grown_steady _ 12) (⟨29, _, rfl, rfl, by kernel_rfl, rfl⟩) rfl
    case o13r3t => exact ValOp.no (grown_steady _ 13) (⟨29, _, rfl, rfl, by kernel_rfl, rfl⟩) rfl
    case o14r3t => exact ValOp.no (grown_steady _ 14) (⟨29, _, rfl, rfl, by kernel_rfl, rfl⟩) rfl
    case o15r3t => exact ValOp.pure (grown_steady _ 15) [(29, .bool false), (32, undef)] (⟨25, _, rfl, rfl, by kernel_rfl, rfl⟩) (fun _ h1 _ => ⟨h1 11 29 (by kernel_rfl), h1 14 32 (by kernel_rfl), trivial⟩) (by kernel_rfl) (fun _ _ _ hg _ => by kernel_rfl)
    case o16r3t => exact ValOp.pure (grown_steady _ 16) [(25, .bool false), (33, .bool false)] rfl (fun _ h1 _ => ⟨h1 7 25 (by kernel_rfl), h1 15 33 (by kernel_rfl), trivial⟩) (by kernel_rfl) (fun _ _ _ hg _ => by kernel_rfl)
    clear hCK k7
    intro w3 _ _ hb3
    have HI3 : Hid (BoxI p w.heap.size w w3) := HI2.out.step hb3
    have HA3 : Hid (RdsA .i32 (w3.alloc (.cells #[] 21)) v zs) := (HA0.out.below HI3.out.1).below ((Below.refl _ _).alloc (Nat.le_refl _) _)
    have hZa : zs.length ≤ 140737488355328 := by have := HZ.out; omega
    have hZb : zs.length * 4 ≤ 140737488355328 := by have := HZ.out; omega
    clear hb3 hl HI2 k6
    refine hc2 _ _ ?_
    clear hc2
    go_wp2_with (at_builtin; go_must (refine wpList_append_rds rfl _ _ 24 21 .i32 4 rfl w3.heap.size i0 Try.underlying24 hi hz0 hz1 hz2 _ v zs rfl (own_empty w3 21) rfl HA3.out hZa hZb (by simp) ?_))
    intro v4 w4 ho4 hb4
    have HI4 : Hid (BoxI p w.heap.size w w4) := HI3.out.step (((Below.refl w3.heap.size w3).alloc (Nat.le_refl _) (.cells #[] 21)).trans hb4)
    have R4 : Hid (Rds .i32 w4 v4 zs) := Rw.rds (kd := .i32) (e := 21) (b := w3.heap.size) ho4
    obtain ⟨a0, a1, a2, a3, a4, a5, a6, a7⟩ := cells_box HI4.out
    have k9 := encodeBy_any p zs v4 w4 HP.out.1 HP.out.2 HZ.out R4.out
    clear ho4 hb4 HA3 HI3 hZa hZb hi hz0 hz1 hz2
    go_wp2_with (go_at_call 9; refine k9.mono ?_)
    intro e5 w5 hq
    obtain ⟨hE5, b5⟩ := hq.out
    have HE5 : Hid (ebA p zs e5) := hE5
    obtain ⟨S1, P1, E1, he⟩ := eb_tuple hE5
    subst he
    have HI5 : Hid (BoxI p w.heap.size w w5) := HI4.out.step b5
    have R5 : Hid (Rds .i32 w5 v4 zs) := R4.out.below b5
    clear hq b5 k9 HI4 hE5 R4 a0 a1 a2 a3 a4 a5 a6 a7
    obtain ⟨a0, a1, a2, a3, a4, a5, a6, a7⟩ := cells_box HI5.out
    go_wp2_with (go_at_call 8; refine (calls_hid (k8 _)).mono ?_)
    intro _ w6 hq
    obtain ⟨rfl, b6⟩ := hq.out
    have HI6 : Hid (BoxI p w.heap.size w w6) := HI5.out.step b6
    have R6 : Hid (Rds .i32 w6 v4 zs) := R5.out.below b6
    have k10 := rencodeBy_any p zs os v w6 HP.out.1 HP.out.2 HZ.out HS.out ((HA0.out.below HI6.out.1).rds)
    clear hq b6 HI5 R5 a0 a1 a2 a3 a4 a5 a6 a7
    go_wp2_with (go_at_call 10; refine k10.mono ?_)
    intro e7 w7 hq
    obtain ⟨hE7, b7⟩ := hq.out
    have he := rb_is HS.out hE7 HE5.out
    subst he
    have HI7 : Hid (BoxI p w.heap.size w w7) := HI6.out.step b7
    have R7 : Hid (Rds .i32 w7 v4 zs) := R6.out.below b7
    have k11 := sameL_any zs v4 v w7 R7.out ((HA0.out.below HI7.out.1).rds) (by have := HZ.out; omega)
    clear hq b7 HI6 R6 hE7 HE5 k10
    go_wp2_with (go_at_call 11; refine (calls_hid k11).mono ?_)
    intro _ w8 hq
    obtain ⟨rfl, b8⟩ := hq.out
    have HI8 : Hid (BoxI p w.heap.size w w8) := HI7.out.step b8
    clear hq b8 k11 HI7 R7
    obtain ⟨a0, a1, a2, a3, a4, a5, a6, a7⟩ := cells_box HI8.out
    go_wp2_with (go_at_call 12; refine (k12 _).mono ?_)
    intro e9 w9 hq
    obtain ⟨hE9, b9⟩ := hq.out
    obtain ⟨v9, he9, hR9⟩ := db_form hE9
    rw [hG] at he9 hR9
    subst he9
    have HI9 : Hid (BoxI p w.heap.size w w9) := HI8.out.step b9
    have R9 : Hid (Rds .i32 w9 v9 L) := hR9
    clear hq b9 HI8 hE9 hR9 a0 a1 a2 a3 a4 a5 a6 a7 k12
    obtain ⟨a0, a1, a2, a3, a4, a5, a6, a7⟩ := cells_box HI9.out
    go_wp2_with (go_at_call 8; refine (calls_hid (k8 _)).mono ?_)
    intro _ w10 hq
    obtain ⟨rfl, b10⟩ := hq.out
    have HI10 : Hid (BoxI p w.heap.size w w10) := HI9.out.step b10
    have R10 : Hid (Rds .i32 w10 v9 L) := R9.out.below b10
    clear hq b10 HI9 R9 a0 a1 a2 a3 a4 a5 a6 a7
    go_wp2_with (go_at_call 13; refine (k13 _).mono ?_)
    intro e11 w11 hq
    obtain ⟨hE11, b11⟩ := hq.out
    obtain ⟨v11, he11, hR11⟩ := db_form hE11
    rw [hG] at he11 hR11
    subst he11
    have HI11 : Hid (BoxI p w.heap.size w w11) := HI10.out.step b11
    have k11 := sameL_any L v9 v11 w11 (R10.out.below b11) hR11 (by have := HL.out; omega)
    clear hq b11 HI10 hE11 hR11 k13
    go_wp2_with (go_at_call 11; refine (calls_hid k11).mono ?_)
    intro _ w12 hq
    obtain ⟨rfl, b12⟩ := hq.out
    have HI12 : Hid (BoxI p w.heap.size w w12) := HI11.out.step b12
    clear hq b12 k11 HI11
    go_wp2
    go_ret
    exact ⟨rfl, HI12.out.1⟩
  | false =>
    simp only [hCK] at k6 k7
    refine wp_region_vals (a1 := ?a1r3f) (grown _) [.agg (bv p), .int .i64 144, .bool false, .agg (bv p), .agg (bv p), .bool false, .bool false, .bool false, .agg (bv p), .int .i64 144, .bool true, .bool true, .agg (bv p), .int .i64 144, .bool false, .bool false, .bool false] 100 rfl (by kernel_rfl) (by kernel_rfl) (grown_start _) ⟨?o0r3f, ?o1r3f, ?o2r3f, ?o3r3f, ?o4r3f, ?o5r3f, ?o6r3f, ?o7r3f, ?o8r3f, ?o9r3f, ?o10r3f, ?o11r3f, ?o12r3f, ?o13r3f, ?o14r3f, ?o15r3f, ?o16r3f, trivial⟩ ?har3f ?hdoner3f
    case har3f => simp [putAll, Act.put]; exact rfl
    case o0r3f => exact ValOp.pure (grown_steady _ 0) [(3, .pointer (some ⟨w.heap.size, 0, none⟩))] rfl (fun _ _ h2 => ⟨(h2 3 (by kernel_rfl)).trans rfl, trivial⟩) (by kernel_rfl) (fun _ _ _ hg _ => run_read rfl rfl (run_loadVar_row _ _ _ _ _ _ _ (below_at hl.out hg) Try.underlying23 rfl (by kernel_rfl)))
    case o1r3f => exact ValOp.call (grown_steady _ 1) [(18, .agg (bv p))] rfl (fun _ h1 _ => ⟨h1 0 18 (by kernel_rfl), trivial⟩) (by kernel_rfl) 6 #[.agg (bv p)] (fun _ => by kernel_rfl) (fun _ w1 _ => k6 w1)
    case o2r3f => exact ValOp.pure (grown_steady _ 2) [(19, .int .i64 144)] rfl (fun _ h1 _ => ⟨h1 1 19 (by kernel_rfl), trivial⟩) (by kernel_rfl) (fun _ _ _ hg _ => by kernel_rfl)
    case o3r3f => exact ValOp.pure (grown_steady _ 3) [(3, .pointer (some ⟨w.heap.size, 0, none⟩))] rfl (fun _ _ h2 => ⟨(h2 3 (by kernel_rfl)).trans rfl, trivial⟩) (by kernel_rfl) (fun _ _ _ hg _ => run_read rfl rfl (run_loadVar_row _ _ _ _ _ _ _ (below_at hl.out hg) Try.underlying23 rfl (by kernel_rfl)))
    case o4r3f => exact ValOp.call (grown_steady _ 4) [(21, .agg (bv p))] rfl (fun _ h1 _ => ⟨h1 3 21 (by kernel_rfl), trivial⟩) (by kernel_rfl) 8 #[.agg (bv p)] (fun _ => by kernel_rfl) (fun _ w1 _ => k8 w1)
    case o5r3f => exact ValOp.call (grown_steady _ 5) [(22, .agg (bv p))] rfl (fun _ h1 _ => ⟨h1 4 22 (by kernel_rfl), trivial⟩) (by kernel_rfl) 7 #[.agg (bv p)] (fun _ => by kernel_rfl) (fun _ w1 _ => k7 w1)
    case o6r3f => exact ValOp.pure (grown_steady _ 6) [(20, .bool false), (23, .bool false)] rfl (fun _ h1 _ => ⟨h1 2 20 (by kernel_rfl), h1 5 23 (by kernel_rfl), trivial⟩) (by kernel_rfl) (fun _ _ _ hg _ => by kernel_rfl)
    case o7r3f => exact ValOp.pure (grown_steady _ 7) [(24, .bool false)] rfl (fun _ h1 _ => ⟨h1 6 24 (by kernel_rfl), trivial⟩) (by kernel_rfl) (fun _ _ _ hg _ => by kernel_rfl)
    case o8r3f => exact ValOp.pure (grown_steady _ 8) [(3, .pointer (some ⟨w.heap.size, 0, none⟩))] (⟨25, _, rfl, rfl, by kernel_rfl, rfl⟩) (fun _ _ h2 => ⟨(h2 3 (by kernel_rfl)).trans rfl, trivial⟩) (by kernel_rfl) (fun _ _ _ hg _ => run_read rfl rfl (run_loadVar_row _ _ _ _ _ _ _ (below_at hl.out hg) Try.underlying23 rfl (by kernel_rfl)))
    case o9r3f => exact ValOp.call (grown_steady _ 9) [(26, .agg (bv p))] (⟨25, _, rfl, rfl, by kernel_rfl, rfl⟩) (fun _ h1 _ => ⟨h1 8 26 (by kernel_rfl), trivial⟩) (by kernel_rfl) 6 #[.agg (bv p)] (fun _ => by kernel_rfl) (fun _ w1 _ => k6 w1)
    case o10r3f => exact ValOp.pure (grown_steady _ 10) [(27, .int .i64 144)] (⟨25, _, rfl, rfl, by kernel_rfl, rfl⟩) (fun _ h1 _ => ⟨h1 9 27 (by kernel_rfl), trivial⟩) (by kernel_rfl) (fun _ _ _ hg _ => by kernel_rfl)
    case o11r3f => exact ValOp.pure (grown_steady _ 11) [(28, .bool true)] (⟨25, _, rfl, rfl, by kernel_rfl, rfl⟩) (fun _ h1 _ => ⟨h1 10 28 (by kernel_rfl), trivial⟩) (by kernel_rfl) (fun _ _ _ hg _ => by kernel_rfl)
    case o12r3f => exact ValOp.pure (grown_steady _ 12) [(3, .pointer (some ⟨w.heap.size, 0, none⟩))] (⟨29, _, rfl, rfl, by kernel_rfl, rfl⟩) (fun _ _ h2 => ⟨(h2 3 (by kernel_rfl)).trans rfl, trivial⟩) (by kernel_rfl) (fun _ _ _ hg _ => run_read rfl rfl (run_loadVar_row _ _ _ _ _ _ _ (below_at hl.out hg) Try.underlying23 rfl (by kernel_rfl)))
    case o13r3f => exact ValOp.call (grown_steady _ 13) [(30, .agg (bv p))] (⟨29, _, rfl, rfl, by kernel_rfl, rfl⟩) (fun _ h1 _ => ⟨h1 12 30 (by kernel_rfl), trivial⟩) (by kernel_rfl) 6 #[.agg (bv p)] (fun _ => by kernel_rfl) (fun _ w1 _ => k6 w1)
    case o14r3f => exact ValOp.pure (grown_steady _ 14) [(31, .int .i64 144)] (⟨29, _, rfl, rfl, by kernel_rfl, rfl⟩) (fun _ h1 _ => ⟨h1 13 31 (by kernel_rfl), trivial⟩) (by kernel_rfl) (fun _ _ _ hg _ => by kernel_rfl)
    case o15r3f => exact ValOp.pure (grown_steady _ 15) [(29, .bool true), (32, .bool false)] (⟨25, _, rfl, rfl, by kernel_rfl, rfl⟩) (fun _ h1 _ => ⟨h1 11 29 (by kernel_rfl), h1 14 32 (by kernel_rfl), trivial⟩) (by kernel_rfl) (fun _ _ _ hg _ => by kernel_rfl)
    case o16r3f => exact ValOp.pure (grown_steady _ 16) [(25, .bool false), (33, .bool false)] rfl (fun _ h1 _ => ⟨h1 7 25 (by kernel_rfl), h1 15 33 (by kernel_rfl), trivial⟩) (by kernel_rfl) (fun _ _ _ hg _ => by kernel_rfl)
    clear hCK k7
    intro w3 _ _ hb3
    have HI3 : Hid (BoxI p w.heap.size w w3) := HI2.out.step hb3
    have HA3 : Hid (RdsA .i32 (w3.alloc (.cells #[] 21)) v zs) := (HA0.out.below HI3.out.1).below ((Below.refl _ _).alloc (Nat.le_refl _) _)
    have hZa : zs.length ≤ 140737488355328 := by have := HZ.out; omega
    have hZb : zs.length * 4 ≤ 140737488355328 := by have := HZ.out; omega
    clear hb3 hl HI2 k6
    refine hc2 _ _ ?_
    clear hc2
    go_wp2_with (at_builtin; go_must (refine wpList_append_rds rfl _ _ 24 21 .i32 4 rfl w3.heap.size i0 Try.underlying24 hi hz0 hz1 hz2 _ v zs rfl (own_empty w3 21) rfl HA3.out hZa hZb (by simp) ?_))
    intro v4 w4 ho4 hb4
    have HI4 : Hid (BoxI p w.heap.size w w4) := HI3.out.step (((Below.refl w3.heap.size w3).alloc (Nat.le_refl _) (.cells #[] 21)).trans hb4)
    have R4 : Hid (Rds .i32 w4 v4 zs) := Rw.rds (kd := .i32) (e := 21) (b := w3.heap.size) ho4
    obtain ⟨a0, a1, a2, a3, a4, a5, a6, a7⟩ := cells_box HI4.out
    have k9 := encodeBy_any p zs v4 w4 HP.out.1 HP.out.2 HZ.out R4.out
    clear ho4 hb4 HA3 HI3 hZa hZb hi hz0 hz1 hz2
    go_wp2_with (go_at_call 9; refine k9.mono ?_)
    intro e5 w5 hq
    obtain ⟨hE5, b5⟩ := hq.out
    have HE5 : Hid (ebA p zs e5) := hE5
    obtain ⟨S1, P1, E1, he⟩ := eb_tuple hE5
    subst he
    have HI5 : Hid (BoxI p w.heap.size w w5) := HI4.out.step b5
    have R5 : Hid (Rds .i32 w5 v4 zs) := R4.out.below b5
    clear hq b5 k9 HI4 hE5 R4 a0 a1 a2 a3 a4 a5 a6 a7
    obtain ⟨a0, a1, a2, a3, a4, a5, a6, a7⟩ := cells_box HI5.out
    go_wp2_with (go_at_call 8; refine (calls_hid (k8 _)).mono ?_)
    intro _ w6 hq
    obtain ⟨rfl, b6⟩ := hq.out
    have HI6 : Hid (BoxI p w.heap.size w w6) := HI5.out.step b6
    have R6 : Hid (Rds .i32 w6 v4 zs) := R5.out.below b6
    have k10 := rencodeBy_any p zs os v w6 HP.out.1 HP.out.2 HZ.out HS.out ((HA0.out.below HI6.out.1).rds)
    clear hq b6 HI5 R5 a0 a1 a2 a3 a4 a5 a6 a7
    go_wp2_with (go_at_call 10; refine k10.mono ?_)
    intro e7 w7 hq
    obtain ⟨hE7, b7⟩ := hq.out
    have he := rb_is HS.out hE7 HE5.out
    subst he
    have HI7 : Hid (BoxI p w.heap.size w w7) := HI6.out.step b7
    have R7 : Hid (Rds .i32 w7 v4 zs) := R6.out.below b7
    have k11 := sameL_any zs v4 v w7 R7.out ((HA0.out.below HI7.out.1).rds) (by have := HZ.out; omega)
    clear hq b7 HI6 R6 hE7 HE5 k10
    go_wp2_with (go_at_call 11; refine (calls_hid k11).mono ?_)
    intro _ w8 hq
    obtain ⟨rfl, b8⟩ := hq.out
    have HI8 : Hid (BoxI p w.heap.size w w8) := HI7.out.step b8
    clear hq b8 k11 HI7 R7
    obtain ⟨a0, a1, a2, a3, a4, a5, a6, a7⟩ := cells_box HI8.out
    go_wp2_with (go_at_call 12; refine (k12 _).mono ?_)
    intro e9 w9 hq
    obtain ⟨hE9, b9⟩ := hq.out
    obtain ⟨v9, he9, hR9⟩ := db_form hE9
    rw [hG] at he9 hR9
    subst he9
    have HI9 : Hid (BoxI p w.heap.size w w9) := HI8.out.step b9
    have R9 : Hid (Rds .i32 w9 v9 L) := hR9
    clear hq b9 HI8 hE9 hR9 a0 a1 a2 a3 a4 a5 a6 a7 k12
    obtain ⟨a0, a1, a2, a3, a4, a5, a6, a7⟩ := cells_box HI9.out
    go_wp2_with (go_at_call 8; refine (calls_hid (k8 _)).mono ?_)
    intro _ w10 hq
    obtain ⟨rfl, b10⟩ := hq.out
    have HI10 : Hid (BoxI p w.heap.size w w10) := HI9.out.step b10
    have R10 : Hid (Rds .i32 w10 v9 L) := R9.out.below b10
    clear hq b10 HI9 R9 a0 a1 a2 a3 a4 a5 a6 a7
    go_wp2_with (go_at_call 13; refine (k13 _).mono ?_)
    intro e11 w11 hq
    obtain ⟨hE11, b11⟩ := hq.out
    obtain ⟨v11, he11, hR11⟩ := db_form hE11
    rw [hG] at he11 hR11
    subst he11
    have HI11 : Hid (BoxI p w.heap.size w w11) := HI10.out.step b11
    have k11 := sameL_any L v9 v11 w11 (R10.out.below b11) hR11 (by have := HL.out; omega)
    clear hq b11 HI10 hE11 hR11 k13
    go_wp2_with (go_at_call 11; refine (calls_hid k11).mono ?_)
    intro _ w12 hq
    obtain ⟨rfl, b12⟩ := hq.out
    have HI12 : Hid (BoxI p w.heap.size w w12) := HI11.out.step b12
    clear hq b12 k11 HI11
    go_wp2
    go_ret
    exact ⟨rfl, HI12.out.1⟩
open Go.ChangeShapes Go.WideShapes Go.ChangeAt
/-- A list of runes that came in, as its numbers. -/
theorem open_runesA {H : Type} {enc : TypeId × Value → H} {W : World} {base : Nat} {v : Value} {d : DataW H} {p : List MemPlace} (hval : Value.okWide Try.prog W .any base 24 v) (h : DataW.Trod enc Try.prog W 0 (fun _ => true) true 24 v d p) :
    ∃ zs, RdsA .i32 W v zs ∧ ((d = .nil ∧ zs = []) ∨ ∃ more, d = .slice (lits .i32 zs) (lits .i32 more)) := by
  obtain ⟨a0, len, cap, rfl⟩ := okWide_slice Try.underlying24 hval
  obtain ⟨fuel, hf⟩ := h
  rcases open_ints Try.underlying24 Try.underlying21 cells21 hf with ⟨hcs, hx⟩ | ⟨a, len', cap', zs, hcs, _, hl, hm, hz, hx, hcell, hwz⟩
  · simp [Value.cells] at hcs
    obtain ⟨rfl, rfl, rfl⟩ := hcs
    simp only [Prod.mk.injEq] at hx
    exact ⟨[], .inl ⟨rfl, rfl⟩, .inl ⟨hx.1, rfl⟩⟩
  · simp [Value.cells] at hcs
    obtain ⟨rfl, rfl, rfl⟩ := hcs
    simp only [Prod.mk.injEq] at hx
    simp only [if_true] at hz
    have hlen : (zs.take len).length = len := by rw [List.length_take]; omega
    refine ⟨zs.take len, .inr ⟨a, cap, by rw [hlen], fun j hj => ?_⟩, .inr ⟨zs.drop len, hx.1⟩⟩
    rw [hlen] at hj
    rw [hcell j (by omega)]
    simp [List.getD, List.getElem?_take_of_lt hj]
end Go.Proofs.Ytahmeejcgddlhab
