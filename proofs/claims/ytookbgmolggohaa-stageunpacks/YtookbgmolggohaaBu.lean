/-
  The contract of built: a table and the document's rows, made alike. Conditions: the rows' numbers fit; the list takes no more bytes than there are.
-/
import Derived.Test.YtookbgmolggohaaCk
import Derived.Test.YtookbgmolggohaaRs
namespace Go.Proofs.Ytookbgmolggohaa
open Go.RowKit
theorem info62 : (Try.prog.info? 62).map (fun i => (i.zero, i.size, i.bytes)) = some (some (.agg #[.int .i32 0, .int .i32 0, .int .i64 0]), 3, 16) := by kernel_rfl
theorem wpList_append_run {P : Program} (w : World) {ops : Array Oper} {rest : List Oper} {o : Oper} {a : Act} {Q : Exit → Act → World → Prop} (hgd : o.guard = none) (s x : Operand) (t : TypeId)
    (ho : o.op = .call { callee := .builtin .append, args := #[s, x], argTypes := #[t, t] }) (v u r : Value) (w' : World) (hs : a.eval s = v) (hx : a.eval x = u) (hr : (Builtin.append_ #[t, t] o.type #[v, u]).run P w = .ok r w')
    (h : wpList P ops Q rest (a.put o.dst r) w') : wpList P ops Q (o :: rest) a w := by
  refine wpList_plain hgd fun K hK => ?_
  unfold Oper.wp execOp
  simp only [ho, resolve, invoke, builtin, Sem.run_bind, Sem.run_pure, Result.andThen_ok, List.map_toArray, List.map_cons, List.map_nil, hs, hx, hr]
  exact hK _ _ h
/-- A slice that came in, copied behind an empty one. -/
theorem run_copy (w : World) (L : List Rw) (v : Value) (ty : TypeId) (hr : Rd3 .i32 w v L) (hl : L.length ≤ 8796093022208) : ∃ v' w', (Builtin.append_ #[22, 22] ty #[.slice (some ⟨w.heap.size, 0, none⟩) 0 0, v]).run Try.prog (w.alloc (.cells #[] 62)) = .ok v' w' ∧ w'.ownsRow w.heap.size 62 3 v' L.length (cel3 .i32 L) ∧ Below w.heap.size w w' := by
  obtain ⟨i0, hi, hz0, hz1, hz2⟩ := info_parts info62
  have hown := own_none w w.heap.size 62 3 (Nat.le_refl _)
  have hb : Below w.heap.size w (w.alloc (.cells #[] 62)) := (Below.refl _ _).alloc (Nat.le_refl _) _
  obtain ⟨a, c, rfl, hlc, hc⟩ := hr
  cases a with
  | none =>
    have h0 : L.length = 0 := by
      rcases Nat.eq_zero_or_pos L.length with h | h
      · exact h
      · obtain ⟨g, off, h1, _⟩ := hc h; cases h1
    have hL : L = [] := List.eq_nil_of_length_eq_zero h0
    subst hL
    refine ⟨_, _, ?_, hown, hb⟩
    simp [Builtin.append_, run_underlying Try.underlying22, sizeOf, typeInfo, hi, Builtin.lenOf, Builtin.firstCells, storeCells]
  | some ad =>
    obtain ⟨v', w', hr, h2, h3, _⟩ := run_append_own (P := Try.prog) (w.alloc (.cells #[] 62)) w.heap.size 22 ty 62 i0 _ 3 16 Try.underlying22 hi hz0 hz1 hz2 rfl (by decide) _ 0 [] hown ad L.length c (cel3 .i32 L) (cel3_len _ _) (fun j u hu => by
      have hj := (List.getElem?_eq_some_iff.1 hu).1
      rw [cel3_len] at hj
      obtain ⟨g, off, h1, hd⟩ := hc (by omega)
      cases h1
      have hq : j / 3 < L.length := by omega
      obtain ⟨d1, d2, d3⟩ := hd (j / 3) hq
      obtain ⟨e1, e2, e3⟩ := cel3_get .i32 L (j / 3) hq
      rw [Go.WideShapes.add_plain]
      have hg := World.block_lt_of_cell? w _ d1
      have hal : ∀ o, (w.alloc (.cells #[] 62)).cell? ⟨g, o, none⟩ = w.cell? ⟨g, o, none⟩ := fun o => World.cell?_of_block (Go.RowKit.Below.heap_alloc w _ g (by simpa using hg))
      rw [hal]
      have hm : j % 3 = 0 ∨ j % 3 = 1 ∨ j % 3 = 2 := by omega
      rcases hm with hm | hm | hm
      · have ej : j = j / 3 * 3 := by omega
        rw [show off + j = off + j / 3 * 3 by omega, d1, ← hu, ← e1, ← ej]
      · have ej : j = j / 3 * 3 + 1 := by omega
        rw [show off + j = off + j / 3 * 3 + 1 by omega, d2, ← hu, ← e2, ← ej]
      · have ej : j = j / 3 * 3 + 2 := by omega
        rw [show off + j = off + j / 3 * 3 + 2 by omega, d3, ← hu, ← e3, ← ej]) (fun u hu => by
      simp only [cel3, List.mem_flatMap] at hu
      obtain ⟨s, _, hs⟩ := hu
      simp at hs
      rcases hs with rfl | rfl | rfl <;> rfl) (by unfold maxLen; omega) (by omega) (by simp)
    refine ⟨v', w', hr, by simpa using h2, hb.grown h3 (by simp) (fun k hk => by simp [Value.ownBlock] at hk; omega)⟩
theorem results_tmp4 {fn : Func} {t u v x : Tmp} (h : fn.results = #[.tmp t, .tmp u, .tmp v, .tmp x]) (tmps : Array Value) (P : Program) (w : World) :
    (results fn tmps).run P w = .ok (.tuple #[tmps.getD t undef, tmps.getD u undef, tmps.getD v undef, tmps.getD x undef]) w := by
  simp [results, h]
set_option maxRecDepth 100000 in
set_option maxHeartbeats 1000000 in
theorem built_bad (L : List Rw) (v : Value) (w : World) (hr : Rd3 .i32 w v L) (hf : fit3 L) (hl : L.length ≤ 8796093022208) (h : (chk L).2 ≠ 0) : Calls Try.prog 9 #[v] w fun e w' => ∃ vr, e = .returned (.tuple #[.pointer none, vr, .bool false, .bool true]) ∧ Rd3 .i64 w' vr L ∧ Below w.heap.size w w' := by
  have KC : Hid (∀ ty, ∃ v' w', (Builtin.append_ #[22, 22] ty #[.slice (some ⟨w.heap.size, 0, none⟩) 0 0, v]).run Try.prog (w.alloc (.cells #[] 62)) = .ok v' w' ∧ w'.ownsRow w.heap.size 62 3 v' L.length (cel3 .i32 L) ∧ Below w.heap.size w w') := fun ty => run_copy w L v ty hr hl
  obtain ⟨vc, wc, hap, hoc, hbc⟩ := KC.out 22
  have K1 : Hid (Calls Try.prog 27 #[vc] wc fun e w' => e = .returned (.tuple #[.pointer none, .int .i64 ((chk L).1 : Nat), .int .i64 (chk L).2]) ∧ Below wc.heap.size wc w') := build_bad L vc wc (Rd3.of_owns hoc) hf h
  have K2 : Hid (∀ w1, Below w.heap.size w w1 → Calls Try.prog 15 #[v] w1 fun e w' => ∃ v', e = .returned v' ∧ w'.ownsRow w1.heap.size 33 3 v' L.length (cel3 .i64 L) ∧ Below w1.heap.size w1 w') := fun w1 b1 => plain_any L v w1 (hr.below b1) hf hl
  have K3 : Hid (∀ w1 v1, Rd3 .i64 w1 v1 L → Calls Try.prog 16 #[v1] w1 fun e w' => e = .returned (.tuple #[.int .i64 ((chk L).1 : Nat), .int .i64 (chk L).2]) ∧ Below w1.heap.size w1 w') := fun w1 v1 h1 => check_any L v1 w1 h1 hf
  have K4 : Hid (∀ w1 v1 v2, Rd3 .i32 w1 v1 L → Rd3 .i64 w1 v2 L → Calls Try.prog 17 #[v1, v2] w1 fun e w' => e = .returned (.bool true) ∧ Below w1.heap.size w1 w') := fun w1 v1 v2 h1 h2 => rows_same L v1 v2 w1 h1 h2 hf hl
  have HC : Hid (Rd3 .i32 wc vc L) := Rd3.of_owns hoc
  have HB : Hid (Below w.heap.size w wc) := hbc
  have hce : (chk L).2 = 0 ∨ (chk L).2 = 80 ∨ (chk L).2 = 81 := by
    unfold chk
    split
    · exact .inr (.inl rfl)
    · exact chkF_err L 0 0
  generalize chk L = cx at *
  obtain ⟨pl, er⟩ := cx
  simp only at h K1 K3 hce
  have her : er = 80 ∨ er = 81 := by omega
  have hap' : Hid _ := hap
  clear KC hoc hbc hr h hap hce
  rcases her with rfl | rfl
  · go_enter Try.func9, Try.ntmps9
    go_wp2_with (first | (at_builtin; refine wpList_append_run _ rfl _ _ 22 rfl _ _ _ _ rfl rfl hap'.out ?_) | (go_at_call 27; refine K1.out.mono ?_))
    intro e w1 hq
    first | (obtain ⟨rfl, b1⟩ : _ ∧ _ := hq) | (subst hq; intro b1)
    have B1 : Hid (Below w.heap.size w w1) := HB.out.trans (b1.mono HB.out.size)
    have C1 : Hid (Rd3 .i32 w1 vc L) := HC.out.below b1
    clear b1 K1
    go_wp2_with (go_at_call 15; refine (K2.out _ B1.out).mono ?_)
    first | rintro e w2 v2 rfl O2 b2 | rintro e w2 ⟨v2, rfl, O2, b2⟩
    have R2 : Hid (Rd3 .i64 w2 v2 L) := Rd3.of_owns O2
    have B2 : Hid (Below w.heap.size w w2) := B1.out.trans (b2.mono B1.out.size)
    have C2 : Hid (Rd3 .i32 w2 vc L) := C1.out.below b2
    clear b2 O2 K2 B1 C1
    go_wp2_with (go_at_call 16; refine (K3.out _ _ R2.out).mono ?_)
    intro e w3 hq
    first | (obtain ⟨rfl, b3⟩ : _ ∧ _ := hq) | (subst hq; intro b3)
    have R3 : Hid (Rd3 .i64 w3 v2 L) := R2.out.below b3
    have B3 : Hid (Below w.heap.size w w3) := B2.out.trans (b3.mono B2.out.size)
    have C3 : Hid (Rd3 .i32 w3 vc L) := C2.out.below b3
    clear b3 K3 R2 B2 C2
    go_wp2_with (go_at_call 17; refine (K4.out _ _ _ C3.out R3.out).mono ?_)
    intro e w4 hq
    first | (obtain ⟨rfl, b4⟩ : _ ∧ _ := hq) | (subst hq; intro b4)
    have R4 : Hid (Rd3 .i64 w4 v2 L) := R3.out.below b4
    have B4 : Hid (Below w.heap.size w w4) := B3.out.trans (b4.mono B3.out.size)
    clear b4 K4
    go_wp2
    try simp only [Exit.inBlock, Exit.then]
    refine bodyPost_ret (results_tmp4 rfl _ _ _) rfl ?_
    exact ⟨_, rfl, R4.out, B4.out⟩
  · go_enter Try.func9, Try.ntmps9
    go_wp2_with (first | (at_builtin; refine wpList_append_run _ rfl _ _ 22 rfl _ _ _ _ rfl rfl hap'.out ?_) | (go_at_call 27; refine K1.out.mono ?_))
    intro e w1 hq
    first | (obtain ⟨rfl, b1⟩ : _ ∧ _ := hq) | (subst hq; intro b1)
    have B1 : Hid (Below w.heap.size w w1) := HB.out.trans (b1.mono HB.out.size)
    have C1 : Hid (Rd3 .i32 w1 vc L) := HC.out.below b1
    clear b1 K1
    go_wp2_with (go_at_call 15; refine (K2.out _ B1.out).mono ?_)
    first | rintro e w2 v2 rfl O2 b2 | rintro e w2 ⟨v2, rfl, O2, b2⟩
    have R2 : Hid (Rd3 .i64 w2 v2 L) := Rd3.of_owns O2
    have B2 : Hid (Below w.heap.size w w2) := B1.out.trans (b2.mono B1.out.size)
    have C2 : Hid (Rd3 .i32 w2 vc L) := C1.out.below b2
    clear b2 O2 K2 B1 C1
    go_wp2_with (go_at_call 16; refine (K3.out _ _ R2.out).mono ?_)
    intro e w3 hq
    first | (obtain ⟨rfl, b3⟩ : _ ∧ _ := hq) | (subst hq; intro b3)
    have R3 : Hid (Rd3 .i64 w3 v2 L) := R2.out.below b3
    have B3 : Hid (Below w.heap.size w w3) := B2.out.trans (b3.mono B2.out.size)
    have C3 : Hid (Rd3 .i32 w3 vc L) := C2.out.below b3
    clear b3 K3 R2 B2 C2
    go_wp2_with (go_at_call 17; refine (K4.out _ _ _ C3.out R3.out).mono ?_)
    intro e w4 hq
    first | (obtain ⟨rfl, b4⟩ : _ ∧ _ := hq) | (subst hq; intro b4)
    have R4 : Hid (Rd3 .i64 w4 v2 L) := R3.out.below b4
    have B4 : Hid (Below w.heap.size w w4) := B3.out.trans (b4.mono B3.out.size)
    clear b4 K4
    go_wp2
    try simp only [Exit.inBlock, Exit.then]
    refine bodyPost_ret (results_tmp4 rfl _ _ _) rfl ?_
    exact ⟨_, rfl, R4.out, B4.out⟩
set_option maxRecDepth 100000 in
set_option maxHeartbeats 1000000 in
theorem built_good (L : List Rw) (v : Value) (w : World) (hr : Rd3 .i32 w v L) (hf : fit3 L) (hl : L.length ≤ 8796093022208) (h : (chk L).2 = 0) : Calls Try.prog 9 #[v] w fun e w' => ∃ T vr, e = .returned (.tuple #[.pointer (some ⟨T, 0, none⟩), vr, .bool true, .bool true]) ∧ Rd3 .i64 w' vr L ∧ TabAt w' T (lk L) ∧ Below w.heap.size w w' := by
  obtain ⟨vc, wc, hap, hoc, hbc⟩ := run_copy w L v 22 hr hl
  have K1 : Hid (Calls Try.prog 27 #[vc] wc fun e w' => ∃ T, e = .returned (.tuple #[.pointer (some ⟨T, 0, none⟩), .int .i64 0, .int .i64 0]) ∧ TabAt w' T (lk L) ∧ Below wc.heap.size wc w') := build_good L vc wc (Rd3.of_owns hoc) hf h
  have K2 : Hid (∀ w1, Below w.heap.size w w1 → Calls Try.prog 15 #[v] w1 fun e w' => ∃ v', e = .returned v' ∧ w'.ownsRow w1.heap.size 33 3 v' L.length (cel3 .i64 L) ∧ Below w1.heap.size w1 w') := fun w1 b1 => plain_any L v w1 (hr.below b1) hf hl
  have K3 : Hid (∀ w1 v1, Rd3 .i64 w1 v1 L → Calls Try.prog 16 #[v1] w1 fun e w' => e = .returned (.tuple #[.int .i64 0, .int .i64 0]) ∧ Below w1.heap.size w1 w') := fun w1 v1 h1 => by
    have := check_any L v1 w1 h1 hf
    rw [(chk_ok h).2.2] at this
    exact this
  have K4 : Hid (∀ w1 v1 v2, Rd3 .i32 w1 v1 L → Rd3 .i64 w1 v2 L → Calls Try.prog 17 #[v1, v2] w1 fun e w' => e = .returned (.bool true) ∧ Below w1.heap.size w1 w') := fun w1 v1 v2 h1 h2 => rows_same L v1 v2 w1 h1 h2 hf hl
  have HC : Hid (Rd3 .i32 wc vc L) := Rd3.of_owns hoc
  have HB : Hid (Below w.heap.size w wc) := hbc
  have hap' : Hid _ := hap
  clear hoc hbc hr h hap
  go_enter Try.func9, Try.ntmps9
  go_wp2_with (first | (at_builtin; refine wpList_append_run _ rfl _ _ 22 rfl _ _ _ _ rfl rfl hap'.out ?_) | (go_at_call 27; refine K1.out.mono ?_))
  first | rintro e w1 T rfl t1 b1 | rintro e w1 ⟨T, rfl, t1, b1⟩
  have B1 : Hid (Below w.heap.size w w1) := HB.out.trans (b1.mono HB.out.size)
  have C1 : Hid (Rd3 .i32 w1 vc L) := HC.out.below b1
  replace t1 : Hid (TabAt w1 T (lk L)) := t1
  clear b1 K1
  go_wp2_with (go_at_call 15; refine (K2.out _ B1.out).mono ?_)
  first | rintro e w2 v2 rfl O2 b2 | rintro e w2 ⟨v2, rfl, O2, b2⟩
  have R2 : Hid (Rd3 .i64 w2 v2 L) := Rd3.of_owns O2
  have B2 : Hid (Below w.heap.size w w2) := B1.out.trans (b2.mono B1.out.size)
  have C2 : Hid (Rd3 .i32 w2 vc L) := C1.out.below b2
  have t2 : Hid (TabAt w2 T (lk L)) := t1.out.below b2
  clear b2 O2 K2 B1 C1 t1
  go_wp2_with (go_at_call 16; refine (K3.out _ _ R2.out).mono ?_)
  intro e w3 hq
  first | (obtain ⟨rfl, b3⟩ : _ ∧ _ := hq) | (subst hq; intro b3)
  have R3 : Hid (Rd3 .i64 w3 v2 L) := R2.out.below b3
  have B3 : Hid (Below w.heap.size w w3) := B2.out.trans (b3.mono B2.out.size)
  have C3 : Hid (Rd3 .i32 w3 vc L) := C2.out.below b3
  have t3 : Hid (TabAt w3 T (lk L)) := t2.out.below b3
  clear b3 K3 R2 B2 C2 t2
  go_wp2_with (go_at_call 17; refine (K4.out _ _ _ C3.out R3.out).mono ?_)
  intro e w4 hq
  first | (obtain ⟨rfl, b4⟩ : _ ∧ _ := hq) | (subst hq; intro b4)
  have R4 : Hid (Rd3 .i64 w4 v2 L) := R3.out.below b4
  have B4 : Hid (Below w.heap.size w w4) := B3.out.trans (b4.mono B3.out.size)
  have t4 : Hid (TabAt w4 T (lk L)) := t3.out.below b4
  clear b4 K4 t3
  go_wp2
  try simp only [Exit.inBlock, Exit.then]
  refine bodyPost_ret (results_tmp4 rfl _ _ _) rfl ?_
  exact ⟨_, _, rfl, R4.out, t4.out, B4.out⟩
end Go.Proofs.Ytookbgmolggohaa
