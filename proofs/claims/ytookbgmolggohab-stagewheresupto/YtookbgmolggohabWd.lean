/-
  The contract of the law's two: two tables, and the document's rows. Conditions: the numbers fit; the lists take no more bytes than there are.
-/
import Derived.Test.YtookbgmolggohabWc
namespace Go.Proofs.Ytookbgmolggohab
open Go.RowKit
/-- The rows, where they may be. -/
def gd (L : List Rw) : List Rw := if (chk L).2 = 0 then L else []
theorem gd_ok (L : List Rw) : okF 0 (gd L) ∧ (gd L).length ≤ 65536 := by
  unfold gd
  split
  · rename_i h
    obtain ⟨h1, h2, -⟩ := chk_ok h
    exact ⟨h2, h1⟩
  · exact ⟨trivial, by simp⟩
theorem results_tmp5 {fn : Func} {t u v x y : Tmp} (h : fn.results = #[.tmp t, .tmp u, .tmp v, .tmp x, .tmp y]) (tmps : Array Value) (P : Program) (w : World) :
    (results fn tmps).run P w = .ok (.tuple #[tmps.getD t undef, tmps.getD u undef, tmps.getD v undef, tmps.getD x undef, tmps.getD y undef]) w := by
  simp [results, h]
/-- Two tables and their rows, told. -/
def Told (L K : List Rw) (e : Ending) (W : World) : Prop := ∃ ta tb ra rb, e = .returned (.tuple #[ta, tb, ra, rb, .bool true]) ∧ Tab W ta (lk (gd L)) ∧ Tab W tb (lk (gd K)) ∧ (∃ p, ta = .pointer p) ∧ (∃ p, tb = .pointer p) ∧ Rd3 .i64 W ra (gd L) ∧ Rd3 .i64 W rb (gd K)
set_option maxRecDepth 100000 in
set_option maxHeartbeats 2000000 in
theorem two_11 (L K : List Rw) (v u : Value) (w : World) (hr : Rd3 .i32 w v L) (hf : fit3 L) (hl : L.length ≤ 8796093022208) (hr2 : Rd3 .i32 w u K) (hf2 : fit3 K) (hl2 : K.length ≤ 8796093022208) (h : (chk L).2 = 0) (h2 : (chk K).2 = 0) : Calls Try.prog 18 #[v, u] w fun e w' => Told L K e w' ∧ Below w.heap.size w w' := by
  have gL : gd L = L := if_pos h
  have gK : gd K = K := if_pos h2
  unfold Told
  rw [gL, gK]
  have K1 : Hid (∀ W, Below w.heap.size w W → Calls Try.prog 30 #[v] W fun e w' => ∃ T vr, e = .returned (.tuple #[.pointer (some ⟨T, 0, none⟩), vr, .bool true, .bool true]) ∧ Rd3 .i64 w' vr L ∧ TabAt w' T (lk L) ∧ Below W.heap.size W w') := fun W hW => built_good L v W (hr.below hW) hf hl h
  have K2 : Hid (∀ W, Below w.heap.size w W → Calls Try.prog 30 #[u] W fun e w' => ∃ T vr, e = .returned (.tuple #[.pointer (some ⟨T, 0, none⟩), vr, .bool true, .bool true]) ∧ Rd3 .i64 w' vr K ∧ TabAt w' T (lk K) ∧ Below W.heap.size W w') := fun W hW => built_good K u W (hr2.below hW) hf2 hl2 h2
  have B0 : Hid (Below w.heap.size w w) := Below.refl _ _
  clear hr hf hl hr2 hf2 hl2 h h2 gL gK
  go_enter Try.func18, Try.ntmps18
  go_wp2_with (go_at_call 30; refine (K1.out _ B0.out).mono ?_)
  first | rintro e w1 T1 r1 rfl x1 t1 b1 | rintro e w1 ⟨T1, r1, rfl, x1, t1, b1⟩
  replace x1 : Hid (Rd3 .i64 w1 r1 L) := x1
  replace t1 : Hid (TabAt w1 T1 (lk L)) := t1
  replace b1 : Hid (Below w.heap.size w w1) := b1
  go_wp2_with (go_at_call 30; refine (K2.out _ b1.out).mono ?_)
  first | rintro e w2 T2 r2 rfl x2 t2 b2 | rintro e w2 ⟨T2, r2, rfl, x2, t2, b2⟩
  have X1 : Hid (Rd3 .i64 w2 r1 L) := x1.out.below b2
  have X2 : Hid (Rd3 .i64 w2 r2 K) := x2
  have Y1 : Hid (TabAt w2 T1 (lk L)) := t1.out.below b2
  have Y2 : Hid (TabAt w2 T2 (lk K)) := t2
  have B2 : Hid (Below w.heap.size w w2) := b1.out.trans (b2.mono b1.out.size)
  clear x1 x2 b1 b2 t1 t2 K1 K2
  go_wp2
  refine bodyPost_ret (results_tmp5 rfl _ _ _) rfl ?_
  exact ⟨⟨_, _, _, _, rfl, .inr ⟨_, rfl, Y1.out⟩, .inr ⟨_, rfl, Y2.out⟩, ⟨_, rfl⟩, ⟨_, rfl⟩, X1.out, X2.out⟩, B2.out⟩
set_option maxRecDepth 100000 in
set_option maxHeartbeats 2000000 in
theorem two_10 (L K : List Rw) (v u : Value) (w : World) (hr : Rd3 .i32 w v L) (hf : fit3 L) (hl : L.length ≤ 8796093022208) (hr2 : Rd3 .i32 w u K) (hf2 : fit3 K) (hl2 : K.length ≤ 8796093022208) (h : (chk L).2 = 0) (h2 : (chk K).2 ≠ 0) : Calls Try.prog 18 #[v, u] w fun e w' => Told L K e w' ∧ Below w.heap.size w w' := by
  have gL : gd L = L := if_pos h
  have gK : gd K = [] := if_neg h2
  unfold Told
  rw [gL, gK]
  have K1 : Hid (∀ W, Below w.heap.size w W → Calls Try.prog 30 #[v] W fun e w' => ∃ T vr, e = .returned (.tuple #[.pointer (some ⟨T, 0, none⟩), vr, .bool true, .bool true]) ∧ Rd3 .i64 w' vr L ∧ TabAt w' T (lk L) ∧ Below W.heap.size W w') := fun W hW => built_good L v W (hr.below hW) hf hl h
  have K2 : Hid (∀ W, Below w.heap.size w W → Calls Try.prog 30 #[u] W fun e w' => ∃ vr, e = .returned (.tuple #[.pointer none, vr, .bool false, .bool true]) ∧ Rd3 .i64 w' vr K ∧ Below W.heap.size W w') := fun W hW => built_bad K u W (hr2.below hW) hf2 hl2 h2
  have B0 : Hid (Below w.heap.size w w) := Below.refl _ _
  clear hr hf hl hr2 hf2 hl2 h h2 gL gK
  go_enter Try.func18, Try.ntmps18
  go_wp2_with (go_at_call 30; refine (K1.out _ B0.out).mono ?_)
  first | rintro e w1 T1 r1 rfl x1 t1 b1 | rintro e w1 ⟨T1, r1, rfl, x1, t1, b1⟩
  replace x1 : Hid (Rd3 .i64 w1 r1 L) := x1
  replace t1 : Hid (TabAt w1 T1 (lk L)) := t1
  replace b1 : Hid (Below w.heap.size w w1) := b1
  go_wp2_with (go_at_call 30; refine (K2.out _ b1.out).mono ?_)
  first | rintro e w2 r2 rfl x2 b2 | rintro e w2 ⟨r2, rfl, x2, b2⟩
  have X1 : Hid (Rd3 .i64 w2 r1 L) := x1.out.below b2
  have X2 : Hid (Rd3 .i64 w2 r2 K) := x2
  have Y1 : Hid (TabAt w2 T1 (lk L)) := t1.out.below b2
  have B2 : Hid (Below w.heap.size w w2) := b1.out.trans (b2.mono b1.out.size)
  clear x1 x2 b1 b2 t1 K1 K2
  go_wp2
  refine bodyPost_ret (results_tmp5 rfl _ _ _) rfl ?_
  exact ⟨⟨_, _, _, _, rfl, .inr ⟨_, rfl, Y1.out⟩, .inl ⟨rfl, rfl⟩, ⟨_, rfl⟩, ⟨_, rfl⟩, X1.out, ⟨none, 0, rfl, Nat.le_refl _, fun h => by simp at h⟩⟩, B2.out⟩
set_option maxRecDepth 100000 in
set_option maxHeartbeats 2000000 in
theorem two_01 (L K : List Rw) (v u : Value) (w : World) (hr : Rd3 .i32 w v L) (hf : fit3 L) (hl : L.length ≤ 8796093022208) (hr2 : Rd3 .i32 w u K) (hf2 : fit3 K) (hl2 : K.length ≤ 8796093022208) (h : (chk L).2 ≠ 0) (h2 : (chk K).2 = 0) : Calls Try.prog 18 #[v, u] w fun e w' => Told L K e w' ∧ Below w.heap.size w w' := by
  have gL : gd L = [] := if_neg h
  have gK : gd K = K := if_pos h2
  unfold Told
  rw [gL, gK]
  have K1 : Hid (∀ W, Below w.heap.size w W → Calls Try.prog 30 #[v] W fun e w' => ∃ vr, e = .returned (.tuple #[.pointer none, vr, .bool false, .bool true]) ∧ Rd3 .i64 w' vr L ∧ Below W.heap.size W w') := fun W hW => built_bad L v W (hr.below hW) hf hl h
  have K2 : Hid (∀ W, Below w.heap.size w W → Calls Try.prog 30 #[u] W fun e w' => ∃ T vr, e = .returned (.tuple #[.pointer (some ⟨T, 0, none⟩), vr, .bool true, .bool true]) ∧ Rd3 .i64 w' vr K ∧ TabAt w' T (lk K) ∧ Below W.heap.size W w') := fun W hW => built_good K u W (hr2.below hW) hf2 hl2 h2
  have B0 : Hid (Below w.heap.size w w) := Below.refl _ _
  clear hr hf hl hr2 hf2 hl2 h h2 gL gK
  go_enter Try.func18, Try.ntmps18
  go_wp2_with (go_at_call 30; refine (K1.out _ B0.out).mono ?_)
  first | rintro e w1 r1 rfl x1 b1 | rintro e w1 ⟨r1, rfl, x1, b1⟩
  replace x1 : Hid (Rd3 .i64 w1 r1 L) := x1
  replace b1 : Hid (Below w.heap.size w w1) := b1
  go_wp2_with (go_at_call 30; refine (K2.out _ b1.out).mono ?_)
  first | rintro e w2 T2 r2 rfl x2 t2 b2 | rintro e w2 ⟨T2, r2, rfl, x2, t2, b2⟩
  have X1 : Hid (Rd3 .i64 w2 r1 L) := x1.out.below b2
  have X2 : Hid (Rd3 .i64 w2 r2 K) := x2
  have Y2 : Hid (TabAt w2 T2 (lk K)) := t2
  have B2 : Hid (Below w.heap.size w w2) := b1.out.trans (b2.mono b1.out.size)
  clear x1 x2 b1 b2 t2 K1 K2
  go_wp2
  refine bodyPost_ret (results_tmp5 rfl _ _ _) rfl ?_
  exact ⟨⟨_, _, _, _, rfl, .inl ⟨rfl, rfl⟩, .inr ⟨_, rfl, Y2.out⟩, ⟨_, rfl⟩, ⟨_, rfl⟩, ⟨none, 0, rfl, Nat.le_refl _, fun h => by simp at h⟩, X2.out⟩, B2.out⟩
set_option maxRecDepth 100000 in
set_option maxHeartbeats 2000000 in
theorem two_00 (L K : List Rw) (v u : Value) (w : World) (hr : Rd3 .i32 w v L) (hf : fit3 L) (hl : L.length ≤ 8796093022208) (hr2 : Rd3 .i32 w u K) (hf2 : fit3 K) (hl2 : K.length ≤ 8796093022208) (h : (chk L).2 ≠ 0) (h2 : (chk K).2 ≠ 0) : Calls Try.prog 18 #[v, u] w fun e w' => Told L K e w' ∧ Below w.heap.size w w' := by
  have gL : gd L = [] := if_neg h
  have gK : gd K = [] := if_neg h2
  unfold Told
  rw [gL, gK]
  have K1 : Hid (∀ W, Below w.heap.size w W → Calls Try.prog 30 #[v] W fun e w' => ∃ vr, e = .returned (.tuple #[.pointer none, vr, .bool false, .bool true]) ∧ Rd3 .i64 w' vr L ∧ Below W.heap.size W w') := fun W hW => built_bad L v W (hr.below hW) hf hl h
  have K2 : Hid (∀ W, Below w.heap.size w W → Calls Try.prog 30 #[u] W fun e w' => ∃ vr, e = .returned (.tuple #[.pointer none, vr, .bool false, .bool true]) ∧ Rd3 .i64 w' vr K ∧ Below W.heap.size W w') := fun W hW => built_bad K u W (hr2.below hW) hf2 hl2 h2
  have B0 : Hid (Below w.heap.size w w) := Below.refl _ _
  clear hr hf hl hr2 hf2 hl2 h h2 gL gK
  go_enter Try.func18, Try.ntmps18
  go_wp2_with (go_at_call 30; refine (K1.out _ B0.out).mono ?_)
  first | rintro e w1 r1 rfl x1 b1 | rintro e w1 ⟨r1, rfl, x1, b1⟩
  replace x1 : Hid (Rd3 .i64 w1 r1 L) := x1
  replace b1 : Hid (Below w.heap.size w w1) := b1
  go_wp2_with (go_at_call 30; refine (K2.out _ b1.out).mono ?_)
  first | rintro e w2 r2 rfl x2 b2 | rintro e w2 ⟨r2, rfl, x2, b2⟩
  have X1 : Hid (Rd3 .i64 w2 r1 L) := x1.out.below b2
  have X2 : Hid (Rd3 .i64 w2 r2 K) := x2
  have B2 : Hid (Below w.heap.size w w2) := b1.out.trans (b2.mono b1.out.size)
  clear x1 x2 b1 b2 K1 K2
  go_wp2
  refine bodyPost_ret (results_tmp5 rfl _ _ _) rfl ?_
  exact ⟨⟨_, _, _, _, rfl, .inl ⟨rfl, rfl⟩, .inl ⟨rfl, rfl⟩, ⟨_, rfl⟩, ⟨_, rfl⟩, ⟨none, 0, rfl, Nat.le_refl _, fun h => by simp at h⟩, ⟨none, 0, rfl, Nat.le_refl _, fun h => by simp at h⟩⟩, B2.out⟩
theorem two_any (L K : List Rw) (v u : Value) (w : World) (hr : Rd3 .i32 w v L) (hf : fit3 L) (hl : L.length ≤ 8796093022208) (hr2 : Rd3 .i32 w u K) (hf2 : fit3 K) (hl2 : K.length ≤ 8796093022208) : Calls Try.prog 18 #[v, u] w fun e w' => Told L K e w' ∧ Below w.heap.size w w' := by
  by_cases h : (chk L).2 = 0 <;> by_cases h2 : (chk K).2 = 0
  · exact two_11 L K v u w hr hf hl hr2 hf2 hl2 h h2
  · exact two_10 L K v u w hr hf hl hr2 hf2 hl2 h h2
  · exact two_01 L K v u w hr hf hl hr2 hf2 hl2 h h2
  · exact two_00 L K v u w hr hf hl hr2 hf2 hl2 h h2
end Go.Proofs.Ytookbgmolggohab
