/-
  The last region of the law ScalarCleans: what is said of its slots and of memory. No walk stands here.
-/
import Derived.Test.YtabofadjnbpjkaaDoorRw
import Derived.Test.YtabofadjnbpjkaaDoorLawE
import Derived.Test.YtabofadjnbpjkaaDoorTm
import Derived.Maps.AppendAt
namespace Go.Proofs.YtabofadjnbpjkaaDoor
open Go.RowKit Go.Lib
def intsC (zs : List Int) : List Value := zs.map fun z => Value.int .i32 z
theorem intsC_len (zs : List Int) : (intsC zs).length = zs.length := by unfold intsC; rw [List.length_map]
theorem intsC_app (xs ys : List Int) : intsC xs ++ intsC ys = intsC (xs ++ ys) := by unfold intsC; rw [List.map_append]
/-- A list of some call's own, in a block from n on. -/
def ownR (n : Nat) (zs : List Int) (v : Value) (w : World) : Prop := n ≤ w.heap.size ∧ w.ownsRow n 21 1 v zs.length (intsC zs)
theorem ownR.below {n : Nat} {zs : List Int} {v : Value} {w w' : World} (h : ownR n zs v w) (hb : Below w.heap.size w w') : ownR n zs v w' := ⟨Nat.le_trans h.1 hb.size, owns_below h.2 hb⟩
theorem ownR.of {n : Nat} {zs : List Int} {v : Value} {w : World} {base : Nat} (h : w.ownsRow base 21 1 v zs.length (intsC zs)) (hn : n ≤ base) (hb : base ≤ w.heap.size) : ownR n zs v w := by
  refine ⟨Nat.le_trans hn hb, ?_⟩
  obtain ⟨h1, h2 | ⟨g, cap, cur, h2, h3, h4⟩⟩ := h
  · exact ⟨h1, .inl h2⟩
  · exact ⟨h1, .inr ⟨g, cap, cur, h2, Nat.le_trans hn h3, h4⟩⟩
theorem ownR.rdsA {n : Nat} {zs : List Int} {v : Value} {w : World} (h : ownR n zs v w) : RdsA .i32 w v zs := by
  obtain ⟨_, h1, ⟨rfl, h0⟩ | ⟨g, cap, cur, rfl, hr⟩⟩ := h
  · exact .inl ⟨rfl, List.length_eq_zero_iff.1 h0⟩
  · refine .inr ⟨⟨g, 0, none⟩, cap, rfl, fun j hj => ?_⟩
    have hadd : (⟨g, 0, none⟩ : Addr).add j = ⟨g, j, none⟩ := by unfold Addr.add; split <;> simp_all
    rw [hadd]
    exact owns_cell (n := zs.length) (v := .slice (some ⟨g, 0, none⟩) zs.length cap) ⟨h1, .inr ⟨g, cap, cur, rfl, hr⟩⟩ rfl j _ (by unfold intsC; simp [List.getD, List.getElem?_eq_getElem hj])
/-- A list that is a call's own where it is not empty. -/
def ownQ (n : Nat) (zs : List Int) (v : Value) (w : World) : Prop := (v = .slice none 0 0 ∧ zs = []) ∨ ∃ ad c, v = .slice (some ad) zs.length c ∧ (0 < zs.length → ownR n zs v w)
theorem ownQ.imp {n : Nat} {zs : List Int} {v : Value} {w w' : World} (h : ownQ n zs v w) (f : 0 < zs.length → ownR n zs v w → ownR n zs v w') : ownQ n zs v w' := by
  obtain h | ⟨ad, c, e, h⟩ := h
  · exact .inl h
  · exact .inr ⟨ad, c, e, fun q => f q (h q)⟩
theorem ownQ.below {n : Nat} {zs : List Int} {v : Value} {w w' : World} (h : ownQ n zs v w) (hb : Below w.heap.size w w') : ownQ n zs v w' := h.imp fun _ h => h.below hb
theorem ownQ.rdsA {n : Nat} {zs : List Int} {v : Value} {w : World} (h : ownQ n zs v w) : RdsA .i32 w v zs := by
  obtain h | ⟨ad, c, rfl, h⟩ := h
  · exact .inl h
  · by_cases q : 0 < zs.length
    · exact (h q).rdsA
    · exact .inr ⟨ad, c, rfl, fun j hj => absurd hj (by omega)⟩
theorem ownQ.of {n : Nat} {zs : List Int} {v : Value} {w : World} {base : Nat} (h : w.ownsRow base 21 1 v zs.length (intsC zs)) (hn : n ≤ base) (hb : base ≤ w.heap.size) : ownQ n zs v w := by
  have h' := h
  obtain ⟨_, ⟨rfl, h0⟩ | ⟨g, cap, cur, rfl, _⟩⟩ := h'
  · exact .inl ⟨rfl, List.length_eq_zero_iff.1 h0⟩
  · exact .inr ⟨_, _, rfl, fun _ => ownR.of h hn hb⟩
/-- An empty list in a block of its own. -/
def hollow (n : Nat) (v : Value) (w : World) : Prop := ∃ g, n ≤ g ∧ v = .slice (some ⟨g, 0, none⟩) 0 0 ∧ w.heap[g]? = some (.cells #[] 21 (0, 0))
/-- Two lists that do not lie in one block. -/
def Apart (x y : Value) : Prop := ∀ g, x.ownBlock = some g → y.ownBlock ≠ some g
/-- 'append' as one operation. -/
theorem wp_append {o : Oper} {a : Act} {w : World} {K : Act → World → Prop} {Q : Exit → Act → World → Prop} (s x : Operand) (ho : o.op = .call { callee := .builtin .append, args := #[s, x], argTypes := #[26, 26] }) (base : Nat)
    (v0 v : Value) (xs zs : List Int) (hs : a.eval s = v0) (hown : w.ownsRow base 21 1 v0 xs.length (intsC xs)) (hx : a.eval x = v) (hr : RdsA .i32 w v zs) (hlb : (xs.length + zs.length) * 4 ≤ 140737488355328) (hb : base ≤ w.heap.size)
    (h : ∀ v' w', w'.ownsRow base 21 1 v' (xs ++ zs).length (intsC (xs ++ zs)) → w.grownBy w' v0.ownBlock → (v'.ownBlock = v0.ownBlock ∨ v'.ownBlock = some w.heap.size) → K (a.put o.dst v') w') : o.wp Tryd.prog a w K Q := by
  obtain ⟨i, hi, hz, h1, h2⟩ := info_parts info21
  obtain ⟨rfl, rfl⟩ | ⟨ad, c, rfl, hc⟩ := hr
  · have hrun := run_append_owned_none (P := Tryd.prog) (w := w) base 26 o.type 21 i 1 Tryd.underlying26 hi v0 xs.length (intsC xs) hown
    unfold Oper.wp
    simp [execOp, ho, resolve, invoke, builtin, hs, hx, hrun, Result.andThen]
    exact h _ _ (by rw [List.append_nil]; exact hown) ⟨rfl, rfl, rfl, Nat.le_refl _, fun _ _ _ => rfl⟩ (.inl rfl)
  · obtain ⟨v', w', hrn, h3, h4, _, h5⟩ := run_append_own_at (P := Tryd.prog) w base 26 o.type 21 i (.int .i32 0) 1 4 Tryd.underlying26 hi hz h1 h2 rfl (by decide) v0 xs.length (intsC xs) hown ad zs.length c (intsC zs) (by rw [intsC_len]; omega) (fun j u hj => by
      have hj' : j < zs.length := by have := (List.getElem?_eq_some_iff.1 hj).1; rwa [intsC_len] at this
      rw [hc j hj', ← hj]
      unfold intsC
      simp [List.getD, List.getElem?_eq_getElem hj']) (by intro u hu; unfold intsC at hu; obtain ⟨z, _, rfl⟩ := List.mem_map.1 hu; rfl) (by unfold maxLen; omega) hlb hb
    unfold Oper.wp execOp
    simp only [ho, resolve, invoke, builtin, Sem.run_bind, Sem.run_pure, Result.andThen_ok, List.map_toArray, List.map_cons, List.map_nil, hs, hx, hrn]
    refine h v' w' ?_ h4 h5
    rw [intsC_app] at h3
    rw [List.length_append]
    exact h3
theorem str_eq (A : ByteArray) (t u : Nat) (o : Oper) (ho : o.op = .binOp .eql 9 (.tmp t) (.tmp u) 9) (hne : (u == t) = false) (w : World) : (execOp (rho [(t, .string A), (u, .string A)]) o).run Tryd.prog w = .ok (.value (.bool true)) w := by
  have e1 : rho [(t, .string A), (u, .string A)] (.tmp t) = .string A := by simp [rho]
  have e2 : rho [(t, .string A), (u, .string A)] (.tmp u) = .string A := by simp [rho, List.lookup, hne]
  have h1 : (eqGuard .eql 9 (.tmp t) (.tmp u) (.string A) (.string A)).run Tryd.prog w = .ok () w := by kernel_rfl
  have h2 : (binOp .eql 9 (.string A) (.string A)).run Tryd.prog w = .ok (.bool true) w := by
    simp [go_sem]
  unfold execOp
  simp only [ho, e1, e2, Sem.run_bind, h1, h2, Result.andThen_ok, Sem.run_pure]
theorem run_front (w : World) (s : ByteArray) (k : Nat) (hk : k ≤ s.size) : (Instr.sliceAt 9 (.string s) none (some (.int .i64 k)) none).run Tryd.prog w = .ok (.string (s.extract 0 k)) w := by
  rw [run_sliceAt_string w 9 _ _ _ _ Tryd.underlying9]
  have h : (Instr.sliceBound (.int .i64 (k : Int)) s.size .sliceAlen).run Tryd.prog w = .ok k w := by rw [run_sliceBound w .i64 k s.size _ (by omega) (by omega)]; simp
  simp [Instr.slice, run_underlying Tryd.underlying9, Instr.sliceBounds, h]
theorem run_back (w : World) (s : ByteArray) (k : Nat) (hk : k ≤ s.size) : (Instr.sliceAt 9 (.string s) (some (.int .i64 k)) none none).run Tryd.prog w = .ok (.string (s.extract k s.size)) w := by
  rw [run_sliceAt_string w 9 _ _ _ _ Tryd.underlying9]
  have h : (Instr.sliceBound (.int .i64 (k : Int)) s.size .sliceB).run Tryd.prog w = .ok k w := by rw [run_sliceBound w .i64 k s.size _ (by omega) (by omega)]; simp
  simp [Instr.slice, run_underlying Tryd.underlying9, Instr.sliceBounds, h]
theorem front_op (o : Oper) (t u : Nat) (ho : o.op = .slice 9 (.tmp t) none (some (.tmp u)) none) (hne : (u == t) = false) (w : World) (s : ByteArray) (k : Nat) (hk : k ≤ s.size) : (execOp (rho [(t, .string s), (u, .int .i64 (k : Nat))]) o).run Tryd.prog w = .ok (.value (.string (s.extract 0 k))) w := by
  have e1 : rho [(t, .string s), (u, .int .i64 (k : Nat))] (.tmp t) = .string s := by simp [rho]
  have e2 : rho [(t, .string s), (u, .int .i64 (k : Nat))] (.tmp u) = .int .i64 (k : Nat) := by simp [rho, List.lookup, hne]
  unfold execOp
  simp only [ho, e1, e2, Option.map_some, Option.map_none, Sem.run_bind, run_front w s k hk, Result.andThen_ok, Sem.run_pure]
theorem back_op (o : Oper) (t u : Nat) (ho : o.op = .slice 9 (.tmp t) (some (.tmp u)) none none) (hne : (u == t) = false) (w : World) (s : ByteArray) (k : Nat) (hk : k ≤ s.size) : (execOp (rho [(t, .string s), (u, .int .i64 (k : Nat))]) o).run Tryd.prog w = .ok (.value (.string (s.extract k s.size))) w := by
  have e1 : rho [(t, .string s), (u, .int .i64 (k : Nat))] (.tmp t) = .string s := by simp [rho]
  have e2 : rho [(t, .string s), (u, .int .i64 (k : Nat))] (.tmp u) = .int .i64 (k : Nat) := by simp [rho, List.lookup, hne]
  unfold execOp
  simp only [ho, e1, e2, Option.map_some, Option.map_none, Sem.run_bind, run_back w s k hk, Result.andThen_ok, Sem.run_pure]
theorem wp_keep {P : Program} {c : Code} {Q : Exit → Act → World → Prop} {a : Act} {w : World} (h : ∀ a0 : Act, a0 = a → c.wp P Q a0 w) : c.wp P Q a w := h a rfl
/-- An act from what its slots hold. -/
theorem act_is (a a0 : Act) (l : List (Nat × Value)) (hsz : a.tmps.size = a0.tmps.size) (hd : a.defers = a0.defers) (hk : ∀ t, (l.map (·.1)).contains t = false → a.tmps[t]? = a0.tmps[t]?) (hg : AllIn a l) : a = { tmps := l.foldl (fun ts p => ts.setIfInBounds p.1 p.2) a0.tmps, defers := a0.defers } := by
  have key : ∀ (l : List (Nat × Value)) (ts : Array Value), AllIn a l → ts.size = a.tmps.size → (∀ t, (l.map (·.1)).contains t = false → a.tmps[t]? = ts[t]?) → a.tmps = l.foldl (fun ts p => ts.setIfInBounds p.1 p.2) ts := by
    intro l
    induction l with
    | nil =>
      intro ts _ hs hk
      exact Array.ext_getElem? fun t => hk t rfl
    | cons p l ih =>
      intro ts hg hs hk
      refine ih (ts.setIfInBounds p.1 p.2) hg.2 (by simpa using hs) fun t ht => ?_
      by_cases e : p.1 = t
      · subst e
        have hl : p.1 < a.tmps.size := (Array.getElem?_eq_some_iff.1 hg.1).1
        rw [hg.1]
        simp [hs, hl]
      · rw [Array.getElem?_setIfInBounds_ne e]
        refine hk t ?_
        rw [List.map_cons, List.contains_cons, ht]
        simp [Ne.symm e]
  cases a with
  | mk ts df =>
    simp only at hd
    rw [hd]
    have := key l a0.tmps hg hsz.symm hk
    simp only at this
    rw [this]
theorem keptAll_of {ops : Array Oper} {l : List Nat} (h : (ops.all fun o => match o.dst with | some t => l.contains t | none => true) = true) (t : Nat) (ht : l.contains t = false) : keptAll ops t = true := by
  simp only [keptAll, Array.all_eq_true_iff_forall_mem] at h ⊢
  intro o ho
  have := h o ho
  cases hd : o.dst with
  | none => rfl
  | some d =>
    rw [hd] at this
    simp only at this
    have hne : d ≠ t := fun e => by rw [e, ht] at this; cases this
    simpa using hne
/-- What is said of the region's slots. -/
def lK (n : Nat) (s X Y : ByteArray) (E : Nat) (m : Nat → Bool) : List (Value → World → Prop) :=
  [isV (.string X), isV (.string s), isV (.int .i64 (E : Nat)), isV (.string X), isV (.bool true), isV (.bool true), isV (.string s), ownQ n (nums s), fun v w => m 11 = true ∨ hollow n v w, isV (.string X), fun v w => m 11 = true ∨ ownQ n (nums X) v w, fun v w => m 16 = true ∨ ownR n (nums X) v w, isV (.string s), isV (.int .i64 (E : Nat)), isV (.string Y), fun v w => m 16 = true ∨ ownQ n (nums Y) v w, ownR n (nums X ++ nums Y), isV (.bool true), isV (.bool true), isV (.bool true)]
theorem mark_or {m : Nat → Bool} {i k : Nat} {p q : Prop} (h : m k = true ∨ p) (f : p → q) : mark m i k = true ∨ q := by
  rcases h with h | h
  · left; unfold mark; split
    · rfl
    · exact h
  · exact .inr (f h)
theorem hollow.below {n : Nat} {v : Value} {w w' : World} (h : hollow n v w) (hb : Below w.heap.size w w') : hollow n v w' := h.imp fun _ h => ⟨h.1, h.2.1, below_at h.2.2 hb⟩
theorem lK_below {n : Nat} {s X Y : ByteArray} {E : Nat} {m : Nat → Bool} {i j : Nat} {u : Value} {w w' : World} (h : nthP (lK n s X Y E m) j u w) (hb : Below w.heap.size w w') : nthP (lK n s X Y E (mark m i)) j u w' := by
  match j, h with
  | 0, h => exact h
  | 1, h => exact h
  | 2, h => exact h
  | 3, h => exact h
  | 4, h => exact h
  | 5, h => exact h
  | 6, h => exact h
  | 7, h => exact ownQ.below h hb
  | 8, h => exact mark_or h (fun h => h.below hb)
  | 9, h => exact h
  | 10, h => exact mark_or h (fun h => h.below hb)
  | 11, h => exact mark_or h (fun h => h.below hb)
  | 12, h => exact h
  | 13, h => exact h
  | 14, h => exact h
  | 15, h => exact mark_or h (fun h => h.below hb)
  | 16, h => exact ownR.below h hb
  | 17, h => exact h
  | 18, h => exact h
  | 19, h => exact h
  | z + 20, _ => exact trivial
/-- What is said of memory. -/
def gK (s : ByteArray) (w0 : World) (m : Nat → Bool) (a : Act) (w : World) : Prop :=
  Below w0.heap.size w0 w ∧ (m 7 = true → m 11 = true → m 16 = false → 0 < (nums s).length → ∀ x y, a.tmps[78]? = some x → a.tmps[82]? = some y → Apart x y)
theorem put_at {a : Act} {d : Option Tmp} {t : Tmp} {v : Value} (h : d ≠ some t) : (a.put d v).tmps[t]? = a.tmps[t]? := by
  cases d with
  | none => rfl
  | some d => exact put_other (fun e => h (by rw [e]))
theorem k_calm {n : Nat} {s X Y : ByteArray} {E : Nat} {w0 : World} (i : Nat) (o : Oper) (hi : i ≠ 7 ∧ i ≠ 11) (ho : (o.dst != some 78 && o.dst != some 82) = true) : Calm (gK s w0) (fun m => nthP (lK n s X Y E m)) i o := by
  refine ⟨fun m a w w' v _ h hb => ⟨h.1.trans (hb.mono h.1.size), ?_⟩, fun m j u w w' _ _ hu hb => lK_below hu hb⟩
  simp only [Bool.and_eq_true, bne_iff_ne] at ho
  intro h7 h11 h16 hp x y hx hy
  rw [put_at ho.1] at hx
  rw [put_at ho.2] at hy
  have e7 : mark m i 7 = m 7 := if_neg (Ne.symm hi.1)
  have e11 : mark m i 11 = m 11 := if_neg (Ne.symm hi.2)
  rw [e7] at h7; rw [e11] at h11
  refine h.2 h7 h11 ?_ hp x y hx hy
  unfold mark at h16
  split at h16
  · cases h16
  · exact h16
/-- The list's block is not the empty one's. -/
theorem own_hollow {n : Nat} {zs : List Int} {v u : Value} {w : World} (h : ownR n zs v w) (hp : 0 < zs.length) (hh : hollow n u w) : Apart v u := fun g hg => by
  obtain ⟨_, h1, ⟨rfl, h0⟩ | ⟨g', cap, cur, rfl, hb, hgb, hc, hm, hs, ht⟩⟩ := h
  · omega
  · obtain ⟨k, _, rfl, hk⟩ := hh
    intro e
    simp only [Value.ownBlock, Option.some.injEq] at hg e
    subst hg
    subst e
    rw [hk] at hgb
    cases hgb
    simp at hs
    omega
theorem own_kept {n : Nat} {zs : List Int} {v u : Value} {w w' : World} (h : ownR n zs v w) (ha : Apart v u) (g : w.grownBy w' u.ownBlock) : ownR n zs v w' := by
  refine ⟨Nat.le_trans h.1 g.size, h.2.kept g ?_⟩
  cases hv : v.ownBlock with
  | none => exact .inl rfl
  | some k => exact .inr (fun e => ha k hv e.symm)
theorem own_lt {n : Nat} {zs : List Int} {v : Value} {w : World} (h : ownR n zs v w) (g : Nat) (hg : v.ownBlock = some g) : g < w.heap.size := (h.2.lt g hg).2
/-- An empty one is a list of its own. -/
theorem hollow_own {n : Nat} {v : Value} {w : World} (h : hollow n v w) : w.ownsRow n 21 1 v ([] : List Int).length (intsC []) := by
  obtain ⟨g, hn, rfl, hg⟩ := h
  exact ⟨rfl, .inr ⟨g, 0, #[], rfl, hn, hg, by simp, by decide, rfl, rfl⟩⟩
/-- The first append turns no list but its own. -/
theorem lK_first {n : Nat} {s X Y : ByteArray} {E : Nat} {m : Nat → Bool} {j : Nat} {u v : Value} {w w' : World} (h : nthP (lK n s X Y E m) j u w) (hj : j ≠ 11 ∧ j ≠ 16) (hh : hollow n v w) (g : w.grownBy w' v.ownBlock) : nthP (lK n s X Y E (mark m 11)) j u w' := by
  match j, hj, h with
  | 0, _, h => exact h
  | 1, _, h => exact h
  | 2, _, h => exact h
  | 3, _, h => exact h
  | 4, _, h => exact h
  | 5, _, h => exact h
  | 6, _, h => exact h
  | 7, _, h =>
    exact (show ownQ n (nums s) u w from h).imp fun q h => own_kept h (own_hollow h q hh) g
  | 8, _, h => exact .inl rfl
  | 9, _, h => exact h
  | 10, _, h => exact .inl rfl
  | 11, hj, h => exact absurd rfl hj.1
  | 12, _, h => exact h
  | 13, _, h => exact h
  | 14, _, h => exact h
  | 15, _, h =>
    exact mark_or h fun h => h.imp fun q h => own_kept h (own_hollow h q hh) g
  | 16, hj, h => exact absurd rfl hj.2
  | 17, _, h => exact h
  | 18, _, h => exact h
  | 19, _, h => exact h
  | z + 20, _, _ => exact trivial
/-- The second append turns no list but its own. -/
theorem lK_second {n : Nat} {s X Y : ByteArray} {E : Nat} {m : Nat → Bool} {j : Nat} {u v : Value} {w w' : World} (h : nthP (lK n s X Y E m) j u w) (hj : j ≠ 16) (g : w.grownBy w' v.ownBlock) (ha : j = 7 → 0 < (nums s).length → Apart u v) (hs : m 11 = true) : nthP (lK n s X Y E (mark m 16)) j u w' := by
  match j, hj, h with
  | 0, _, h => exact h
  | 1, _, h => exact h
  | 2, _, h => exact h
  | 3, _, h => exact h
  | 4, _, h => exact h
  | 5, _, h => exact h
  | 6, _, h => exact h
  | 7, _, h =>
    exact (show ownQ n (nums s) u w from h).imp fun q h => own_kept h (ha rfl q) g
  | 8, _, h => exact .inl (by unfold mark; rw [if_neg (by decide)]; exact hs)
  | 9, _, h => exact h
  | 10, _, h => exact .inl (by unfold mark; rw [if_neg (by decide)]; exact hs)
  | 11, _, h => exact .inl rfl
  | 12, _, h => exact h
  | 13, _, h => exact h
  | 14, _, h => exact h
  | 15, _, h => exact .inl rfl
  | 16, hj, h => exact absurd rfl hj
  | 17, _, h => exact h
  | 18, _, h => exact h
  | 19, _, h => exact h
  | z + 20, _, _ => exact trivial
end Go.Proofs.YtabofadjnbpjkaaDoor
