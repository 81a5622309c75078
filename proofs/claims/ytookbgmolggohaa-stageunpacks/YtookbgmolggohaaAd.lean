/-
  The contract of the maker's add: a block more. Conditions: the block's numbers are from 0 to 65535; there are fewer than 8704 blocks so far.
-/
import Derived.Test.YtookbgmolggohaaMp
import Derived.Laws.OwnMore
import Derived.Deep.AppendLies
namespace Go.Proofs.Ytookbgmolggohaa
open Go.RowKit
/-- Outside the blocks of S the world is as it was. -/
structure Far (S : Nat → Prop) (w w' : World) : Prop where
  os : w'.os = w.os
  tape : w'.tape = w.tape
  output : w'.output = w.output
  size : w.heap.size ≤ w'.heap.size
  block : ∀ k, k < w.heap.size → ¬ S k → w'.heap[k]? = w.heap[k]?
theorem Far.refl (S : Nat → Prop) (w : World) : Far S w w := ⟨rfl, rfl, rfl, Nat.le_refl _, fun _ _ _ => rfl⟩
theorem Far.below {S : Nat → Prop} {w w' w'' : World} (h : Far S w w') (hb : Below w'.heap.size w' w'') : Far S w w'' :=
  ⟨hb.os.trans h.os, hb.tape.trans h.tape, hb.output.trans h.output, Nat.le_trans h.size hb.size, fun k hk hs => (hb.block k (Nat.lt_of_lt_of_le hk h.size)).trans (h.block k hk hs)⟩
theorem Far.grown {S : Nat → Prop} {w w' w'' : World} {r : Option Nat} (h : Far S w w') (hb : w'.grownBy w'' r) (hr : ∀ k, r = some k → S k) : Far S w w'' :=
  ⟨hb.os.trans h.os, hb.tape.trans h.tape, hb.output.trans h.output, Nat.le_trans h.size hb.size, fun k hk hs => (hb.block k (Nat.lt_of_lt_of_le hk h.size) (fun e => hs (hr k e.symm))).trans (h.block k hk hs)⟩
theorem Far.toBelow {S : Nat → Prop} {w w' : World} {E : Nat} (h : Far S w w') (hE : E ≤ w.heap.size) (hs : ∀ k, S k → E ≤ k) : Below E w w' :=
  ⟨h.os, h.tape, h.output, h.size, fun k hk => h.block k (by omega) (fun c => by have := hs k c; omega)⟩
theorem Far.set {S : Nat → Prop} {w w' : World} {T i : Nat} {v : Value} (h : Far S w w') (hT : S T) : Far S w (w'.setCell ⟨T, i, none⟩ v) :=
  ⟨h.os, h.tape, h.output, by have := h.size; simpa [World.setCell] using this, fun k hk hs => by
    rw [Below.heap_setCell _ _ _ _ (fun e => hs (by rw [e]; exact hT))]
    exact h.block k hk hs⟩
theorem Far.mono {S S' : Nat → Prop} {w w' : World} (h : Far S w w') (hs : ∀ k, S k → S' k) : Far S' w w' := ⟨h.os, h.tape, h.output, h.size, fun k hk n => h.block k hk fun c => n (hs k c)⟩
theorem Far.trans {S : Nat → Prop} {w w' w'' : World} (h : Far S w w') (h' : Far S w' w'') : Far S w w'' := ⟨h'.os.trans h.os, h'.tape.trans h.tape, h'.output.trans h.output, Nat.le_trans h.size h'.size, fun k hk n => (h'.block k (Nat.lt_of_lt_of_le hk h.size) n).trans (h.block k hk n)⟩
theorem own_in {w : World} {b e s n : Nat} {v : Value} {xs : List Value} {k : Nat} (h : w.ownsRow b e s v n xs) (hk : v.ownBlock = some k) : b ≤ k ∧ ∃ cur, w.heap[k]? = some (.cells cur e (0, 0)) := by
  rcases h.2 with ⟨rfl, _⟩ | ⟨g, cap, cur, rfl, hb, hg, _⟩
  · cases hk
  · obtain rfl : g = k := by simpa [Value.ownBlock] using hk
    exact ⟨hb, cur, hg⟩
theorem owns_same {w w' : World} {b e s n : Nat} {v : Value} {xs : List Value} (h : w.ownsRow b e s v n xs) (hs : ∀ k, v.ownBlock = some k → w'.heap[k]? = w.heap[k]?) : w'.ownsRow b e s v n xs := by
  refine ⟨h.1, ?_⟩
  rcases h.2 with hn | ⟨g, cap, cur, rfl, hb, hg, hr⟩
  · exact .inl hn
  · exact .inr ⟨g, cap, cur, rfl, hb, (hs g rfl).trans hg, hr⟩
theorem owns_slice {W : World} {b e size n : Nat} {v : Value} {xs : List Value} (h : W.ownsRow b e size v n xs) : ∃ a c, v = .slice a n c ∧ n ≤ c ∧ (0 < n → ∃ g, a = some ⟨g, 0, none⟩) := by
  obtain ⟨_, ⟨rfl, h0⟩ | ⟨g, cap, cur, rfl, _, _, h3, _⟩⟩ := h
  · exact ⟨none, 0, by rw [h0], by omega, fun h => by omega⟩
  · exact ⟨_, _, rfl, h3, fun _ => ⟨g, rfl⟩⟩
theorem owns_below {W W' : World} {b e size n : Nat} {v : Value} {xs : List Value} (h : W.ownsRow b e size v n xs) (hb : Below W.heap.size W W') : W'.ownsRow b e size v n xs := owns_same h fun k hk => hb.block k (by obtain ⟨_, cur, h⟩ := own_in h hk; exact (Array.getElem?_eq_some_iff.1 h).1)
theorem ne_tag {w : World} {a b : Nat} {c1 c2 : Array Value} {t1 t2 : TypeId} {r1 r2 : Nat × Nat} (h1 : w.heap[a]? = some (.cells c1 t1 r1)) (h2 : w.heap[b]? = some (.cells c2 t2 r2)) (hne : t1 ≠ t2) : a ≠ b := by
  rintro rfl
  rw [h1] at h2
  simp only [Option.some.injEq, Obj.cells.injEq] at h2
  exact hne h2.2.1
theorem ne_map {w : World} {a b : Nat} {c1 : Array Value} {t1 : TypeId} {r1 : Nat × Nat} {es : Array MapEntry} {ck : Nat} (h1 : w.heap[a]? = some (.cells c1 t1 r1)) (h2 : w.heap[b]? = some (.map es ck)) : a ≠ b := by
  rintro rfl
  rw [h1] at h2
  cases h2
def celP (P : List Nat) : List Value := P.map fun n : Nat => .int .u16 (n : Int)
def celU (U : List (Nat → Int)) : List Value := U.flatMap fun f => (rowOf .u16 128 f).toList
theorem celU_snoc (U : List (Nat → Int)) (f : Nat → Int) : celU (U ++ [f]) = celU U ++ (rowOf .u16 128 f).toList := by simp [celU]
theorem celP_snoc (U : List Nat) (f : Nat) : celP (U ++ [f]) = celP U ++ [.int .u16 (f : Int)] := by simp [celP]
theorem celU_len (U : List (Nat → Int)) : (celU U).length = U.length * 128 := by
  induction U with
  | nil => rfl
  | cons f U ih => simp only [celU, List.flatMap_cons, List.length_append] at ih ⊢; rw [ih]; simp [rowOf_size]; omega
theorem celU_get : ∀ (U : List (Nat → Int)) (i j : Nat) (f : Nat → Int), U[i]? = some f → j < 128 → (celU U)[i * 128 + j]? = some (.int .u16 (f j))
  | [], i, j, f, h, _ => by simp at h
  | g :: U, 0, j, f, h, hj => by
    simp at h; subst h
    simp only [celU, List.flatMap_cons, Nat.zero_mul, Nat.zero_add]
    rw [List.getElem?_append_left (by simp [rowOf_size]; exact hj), Array.getElem?_toList, rowOf_get _ _ _ _ hj]
  | g :: U, i + 1, j, f, h, hj => by
    have := celU_get U i j f (by simpa using h) hj
    simp only [celU, List.flatMap_cons] at this ⊢
    rw [List.getElem?_append_right (by simp [rowOf_size]; omega)]
    simp only [Array.length_toList, rowOf_size]
    rw [show (i + 1) * 128 + j - 128 = i * 128 + j by omega]
    exact this
/-- A maker in memory. -/
structure Mk (w : World) (B M T K : Nat) (pv uv : Value) (U : List (Nat → Int)) (P : List Nat) : Prop where
  bM : B ≤ M
  bT : B ≤ T
  bK : B ≤ K
  m : w.heap[M]? = some (.cells #[.pointer (some ⟨T, 0, none⟩), .map (some K)] 100 (0, 0))
  t : w.heap[T]? = some (.cells #[pv, uv] 76 (0, 0))
  p : w.ownsRow B 70 1 pv P.length (celP P)
  u : w.ownsRow B 72 128 uv U.length (celU U)
  k : MapU w K U
theorem Mk.size {w : World} {B M T K : Nat} {pv uv : Value} {U : List (Nat → Int)} {P : List Nat} (h : Mk w B M T K pv uv U P) : B ≤ w.heap.size := by
  have := (Array.getElem?_eq_some_iff.1 h.m).1
  have := h.bM
  omega
theorem Mk.below {w w' : World} {B M T K : Nat} {pv uv : Value} {U : List (Nat → Int)} {P : List Nat} (h : Mk w B M T K pv uv U P) (hb : Below w.heap.size w w') : Mk w' B M T K pv uv U P := by
  obtain ⟨es, ck, hk⟩ := h.k.block
  exact ⟨h.bM, h.bT, h.bK, (hb.block M (Array.getElem?_eq_some_iff.1 h.m).1).trans h.m, (hb.block T (Array.getElem?_eq_some_iff.1 h.t).1).trans h.t, owns_below h.p hb, owns_below h.u hb, h.k.same (hb.block K (Array.getElem?_eq_some_iff.1 hk).1)⟩
theorem mark_same {s : Nat → Bool} {i j : Nat} (h : mark s i j = false) : s j = false := by
  unfold mark at h; split at h <;> simp_all
def isBs (e : Nat) (X : Array Value) : Value → World → Prop := fun u w => ∃ g, u = .slice (some ⟨g, 0, none⟩) 1 1 ∧ w.heap[g]? = some (.cells X e (0, 0))
/-- What the slots of an appending region hold. -/
def VA (vs : List Value) (B e sz n : Nat) (xs : List Value) (X : Array Value) : (Nat → Bool) → Nat → Value → World → Prop := fun s j v w => match j with
  | 12 => s 13 = false → isBs e X v w
  | 13 => s 16 = false → w.ownsRow B e sz v (n + 1) (xs ++ X.toList)
  | j => v = vs.getD j undef
/-- What memory is in an appending region. -/
def GA (tb : Value → Array Value) (B T e sz n : Nat) (vv : Value) (xs : List Value) (X : Array Value) (w0 : World) : (Nat → Bool) → World → Prop := fun s w =>
  Far (fun k => k = T ∨ vv.ownBlock = some k) w0 w ∧ (s 13 = false → w.ownsRow B e sz vv n xs) ∧ (s 16 = false → w.heap[T]? = some (.cells (tb vv) 76 (0, 0))) ∧
  (s 16 = true → ∃ v', w.heap[T]? = some (.cells (tb v') 76 (0, 0)) ∧ w.ownsRow B e sz v' (n + 1) (xs ++ X.toList))
theorem isBs.below {e : Nat} {X : Array Value} {u : Value} {w w' : World} (h : isBs e X u w) (hb : Below w.heap.size w w') : isBs e X u w' := by
  obtain ⟨g, h1, h2⟩ := h
  exact ⟨g, h1, below_at h2 hb⟩
theorem mark_true {s : Nat → Bool} {i j : Nat} (hij : j ≠ i) (h : mark s i j = true) : s j = true := by
  unfold mark at h; rw [if_neg hij] at h; exact h
theorem ga_calm (vs : List Value) (tb : Value → Array Value) (B T e sz n : Nat) (vv : Value) (xs : List Value) (X : Array Value) (w0 : World) (i : Nat) (hi : 16 ≠ i) : Calm (GA tb B T e sz n vv xs X w0) (VA vs B e sz n xs X) i := by
  constructor
  · rintro s w w' _ ⟨h1, h2, h3, h4⟩ hb
    refine ⟨h1.below hb, fun c => owns_below (h2 (mark_same c)) hb, fun c => below_at (h3 (mark_same c)) hb, fun c => ?_⟩
    obtain ⟨v', h5, h6⟩ := h4 (mark_true hi c)
    exact ⟨v', below_at h5 hb, owns_below h6 hb⟩
  · intro s j u w w' _ _ hu hb
    unfold VA at *
    split at hu
    · exact fun c => (hu (mark_same c)).below hb
    · exact fun c => owns_below (hu (mark_same c)) hb
    · exact hu
theorem run_store_slice {P : Program} {w : World} {g i : Nat} {cs : Array Value} {tt ty : TypeId} {a : Option Addr} {n c : Nat} (hg : w.heap[g]? = some (.cells cs tt (0, 0))) (hi : i < cs.size) (hs : (sizeOf ty).run P w = .ok 1 w) : (storeVar ty ⟨g, i, none⟩ (.slice a n c)).run P w = .ok () (w.setCell ⟨g, i, none⟩ (.slice a n c)) := by
  have hc : w.cell? ⟨g, i, none⟩ = some cs[i] := by rw [cell_of_row w g i cs tt _ hg]; simp [hi]
  simp [storeVar, hs, storeCells, hc, go_sem]
  simp [World.frozen?, hg]
noncomputable def body49 : Code := Try.f49.body.getD .skip
def thn : Code → Code
  | .cond _ a _ => a
  | c => c
theorem isAgg24 (w : World) : (isAgg 24).run Try.prog w = .ok false w := by kernel_rfl
theorem isAgg73 (w : World) : (isAgg 73).run Try.prog w = .ok false w := by kernel_rfl
theorem isAgg74 (w : World) : (isAgg 74).run Try.prog w = .ok false w := by kernel_rfl
theorem isAgg98 (w : World) : (isAgg 98).run Try.prog w = .ok false w := by kernel_rfl
theorem sizeOf73 (w : World) : (sizeOf 73).run Try.prog w = .ok 1 w := by kernel_rfl
theorem sizeOf74 (w : World) : (sizeOf 74).run Try.prog w = .ok 1 w := by kernel_rfl
theorem sizeOf72 (w : World) : (sizeOf 72).run Try.prog w = .ok 128 w := by kernel_rfl
theorem run_bs73 (w : World) (n : Int) : (Instr.buildSlice 73 1 #[(0, .int .u16 n)]).run Try.prog w = .ok (.slice (some ⟨w.heap.size, 0, none⟩) 1 1) (w.alloc (.cells #[.int .u16 n] 70)) := by kernel_rfl
theorem fold_set (off : Nat) : ∀ (l : List Value) (k : Nat) (Y : Array Value) (i : Nat), ((l.zipIdx k).foldl (fun cs (x : Value × Nat) => match x with | (c, j) => cs.setIfInBounds (off + j) c) Y)[i]? = if off + k ≤ i ∧ i < off + k + l.length ∧ i < Y.size then l[i - (off + k)]? else Y[i]?
  | [], k, Y, i => by
    simp only [List.zipIdx_nil, List.foldl_nil, List.length_nil]
    rw [if_neg (by omega)]
  | c :: l, k, Y, i => by
    rw [List.zipIdx_cons, List.foldl_cons, fold_set off l (k + 1)]
    simp only [Array.size_setIfInBounds, Array.getElem?_setIfInBounds, List.length_cons]
    by_cases h1 : off + k = i
    · subst h1
      rw [if_neg (by omega), if_pos rfl]
      by_cases h2 : off + k < Y.size
      · rw [if_pos h2, if_pos (by omega)]; simp
      · rw [if_neg h2, if_neg (by omega), Array.getElem?_eq_none (by omega)]
    · rw [if_neg h1]
      by_cases h2 : off + (k + 1) ≤ i ∧ i < off + (k + 1) + l.length ∧ i < Y.size
      · rw [if_pos h2, if_pos (by omega)]
        rw [show i - (off + k) = (i - (off + (k + 1))) + 1 by omega]
        simp
      · rw [if_neg h2, if_neg (by omega)]
theorem run_bs74 (w : World) (X : Array Value) (hX : X.size = 128) : (Instr.buildSlice 74 1 #[(0, .agg X)]).run Try.prog w = .ok (.slice (some ⟨w.heap.size, 0, none⟩) 1 1) (w.alloc (.cells X 72)) := by
  obtain ⟨i, hi, hz, hs, hb⟩ := info_parts info72
  have e : ∀ Y : Array Value, Y.size = 128 → Instr.fill (fun i => some (i * 128, 128)) Y [(0, .agg X)] = some X := by
    intro Y hY
    simp only [Instr.fill, hX, hY, agg_cells]
    rw [if_neg (by decide), ← Array.foldl_toList, Array.toList_zipIdx]
    refine congrArg some ?_
    apply Array.ext_getElem?
    intro i
    have := fold_set (0 * 128) X.toList 0 Y i
    rw [this]
    by_cases hi : i < 128
    · rw [if_pos (by simp [hX, hY]; exact hi)]
      simp
    · rw [if_neg (by simp [hX]; omega), Array.getElem?_eq_none (by omega), Array.getElem?_eq_none (by omega)]
  simp [Instr.buildSlice, run_underlying Try.underlying74, zeroValue, typeInfo, hi, hz, newRow, e, agg_cells, rowOf_size]
/-- A maker in memory, but for its map. -/
structure Mk' (w : World) (B M T K : Nat) (pv uv : Value) (U : List (Nat → Int)) (P : List Nat) : Prop where
  size : B ≤ w.heap.size
  m : w.heap[M]? = some (.cells #[.pointer (some ⟨T, 0, none⟩), .map (some K)] 100 (0, 0))
  t : w.heap[T]? = some (.cells #[pv, uv] 76 (0, 0))
  p : w.ownsRow B 70 1 pv P.length (celP P)
  u : w.ownsRow B 72 128 uv U.length (celU U)
theorem wp_store_gen {P : Program} {Q : Exit → Act → World → Prop} {o : Oper} {a : Act} {w w' : World} {K : Act → World → Prop} (l : List (Nat × Value)) (hl : AllIn a l) (hc : covers o l = true) {ty : TypeId} {x y : Operand} (ho : o.op = .store ty x y) {g off : Nat} {v : Value}
    (hx : rho l x = .pointer (some ⟨g, off, none⟩)) (hy : rho l y = v) (hd : o.dst = none) (hr : (storeVar ty ⟨g, off, none⟩ v).run P w = .ok () w') (hk : K (a.put o.dst undef) w') : o.wp P a w K Q := by
  unfold Oper.wp
  rw [exec_rho l hl hc]
  unfold execOp
  simp only [ho, hx, hy, Instr.storeAt, Instr.sureAddr, Sem.run_bind, Sem.run_pure, Result.andThen_ok, hr, Oper.upon]
  rw [hd] at hk ⊢
  exact hk
theorem wp_mapUpdate_gen {P : Program} {Q : Exit → Act → World → Prop} {o : Oper} {a : Act} {w w' : World} {K : Act → World → Prop} (l : List (Nat × Value)) (hl : AllIn a l) (hc : covers o l = true) {ty : TypeId} {m x y : Operand} (ho : o.op = .mapUpdate ty m x y) {mv kv v : Value}
    (hm : rho l m = mv) (hx : rho l x = kv) (hy : rho l y = v) (hd : o.dst = none) (hr : (Instr.mapUpdate ty mv kv v).run P w = .ok () w') (hk : K (a.put o.dst undef) w') : o.wp P a w K Q := by
  unfold Oper.wp
  rw [exec_rho l hl hc]
  unfold execOp
  simp only [ho, hm, hx, hy, Sem.run_bind, Sem.run_pure, Result.andThen_ok, hr, Oper.upon]
  rw [hd] at hk ⊢
  exact hk
theorem exec_bs73 {w : World} {l : List (Nat × Value)} {o : Oper} {x : Operand} {n : Int} (ho : o.op = .buildSlice 73 1 #[(0, x)]) (hx : rho l x = .int .u16 n) : (execOp (rho l) o).run Try.prog w = .ok (.value (.slice (some ⟨w.heap.size, 0, none⟩) 1 1)) (w.alloc (.cells #[.int .u16 n] 70)) := by
  unfold execOp
  simp only [ho]
  simp only [List.map_toArray, List.map_cons, List.map_nil, hx, Sem.run_bind, run_bs73, Result.andThen_ok]
  rfl
theorem exec_bs74 {w : World} {l : List (Nat × Value)} {o : Oper} {x : Operand} {X : Array Value} (hX : X.size = 128) (ho : o.op = .buildSlice 74 1 #[(0, x)]) (hx : rho l x = .agg X) : (execOp (rho l) o).run Try.prog w = .ok (.value (.slice (some ⟨w.heap.size, 0, none⟩) 1 1)) (w.alloc (.cells X 72)) := by
  unfold execOp
  simp only [ho]
  simp only [List.map_toArray, List.map_cons, List.map_nil, hx, Sem.run_bind, run_bs74 _ _ hX, Result.andThen_ok]
  rfl
set_option maxRecDepth 100000 in
set_option maxHeartbeats 2000000 in
theorem add_R5 {Q : Exit → Act → World → Prop} (B M T K b : Nat) (pv uv : Value) (U : List (Nat → Int)) (P : List Nat) (X : Array Value) (hX : X.size = 128) (h1c : ∀ u ∈ X.toList, u.oneCell' = true) (nn : Int) (a : Act) (w0 : World) (h : Mk' w0 B M T K pv uv U P) (hb : w0.heap[b]? = some (.cells X 72 (0, 0))) (hbne : uv.ownBlock ≠ some b) (hn : U.length < 8704)
    (ha : At 64 [(0, .pointer (some ⟨M, 0, none⟩)), (3, .pointer (some ⟨b, 0, none⟩)), (4, .int .u16 nn)] a)
    (hK : ∀ a w', At 64 [(0, .pointer (some ⟨M, 0, none⟩)), (3, .pointer (some ⟨b, 0, none⟩)), (4, .int .u16 nn)] a → Far (fun k => k = T ∨ (uv).ownBlock = some k) w0 w' → (∃ v', w'.heap[T]? = some (.cells (#[pv, v']) 76 (0, 0)) ∧ w'.ownsRow B 72 128 v' (U.length + 1) (celU U ++ (X).toList)) → Q .normal a w') :
    Code.wp Try.prog (sq 2 (thn (hd (sq 1 (hd (sq 2 body49)))))) Q a w0 := by
  obtain ⟨i0, hi, hz0, hz1, hz2⟩ := info_parts info72
  have hMT : M ≠ T := ne_tag h.m h.t (by decide)
  have hMo : (uv).ownBlock ≠ some M := fun hq => by
    obtain ⟨_, cur, hc⟩ := own_in h.u hq
    exact ne_tag h.m hc (by decide) rfl
  have hTo : (uv).ownBlock ≠ some T := fun hq => by
    obtain ⟨_, cur, hc⟩ := own_in h.u hq
    exact ne_tag h.t hc (by decide) rfl
  have hbT : b ≠ T := ne_tag hb h.t (by decide)
  have hMlt := (Array.getElem?_eq_some_iff.1 h.m).1
  have hTlt := (Array.getElem?_eq_some_iff.1 h.t).1
  have hblt := (Array.getElem?_eq_some_iff.1 hb).1
  obtain ⟨f, rfl, s0, s3, s4, -⟩ := ha.lit
  change Code.wp _ _ _ ⟨#[f 0, f 1, f 2, f 3, f 4, f 5, f 6, f 7, f 8, f 9, f 10, f 11, f 12, f 13, f 14, f 15, f 16, f 17, f 18, f 19, f 20, f 21, f 22, f 23, f 24, f 25, f 26, f 27, f 28, f 29, f 30, f 31, f 32, f 33, f 34, f 35, f 36, f 37, f 38, f 39, f 40, f 41, f 42, f 43, f 44, f 45, f 46, f 47, f 48, f 49, f 50, f 51, f 52, f 53, f 54, f 55, f 56, f 57, f 58, f 59, f 60, f 61, f 62, f 63], []⟩ _
  simp only at s0 s3 s4
  simp only [s0, s3, s4]
  clear s0 s3 s4
  conv => arg 2; whnf
  refine wp_region_turn (GA (fun v' => #[pv, v']) B T 72 128 U.length (uv) (celU U) (X) w0) (VA [.pointer (some ⟨M, 0, none⟩), .pointer (some ⟨M, 0, none⟩), .pointer (some ⟨M, 0, none⟩), .pointer (some ⟨T, 0, none⟩), .pointer (some ⟨M, 0, none⟩), .pointer (some ⟨M, 0, none⟩), .pointer (some ⟨M, 0, none⟩), .pointer (some ⟨T, 0, none⟩), .pointer (some ⟨T, 0, none⟩), .pointer (some ⟨T, 1, none⟩), uv, .agg X, undef, undef, .pointer (some ⟨T, 0, none⟩), .pointer (some ⟨T, 1, none⟩), undef] B 72 128 U.length (celU U) (X)) 64 rfl (by kernel_rfl) (by kernel_rfl) (fun w1 hb1 _ s hs => ⟨(Far.refl _ _).below hb1, fun _ => owns_below h.u hb1, fun _ => below_at h.t hb1, fun c => by rw [hs 16] at c; cases c⟩) ⟨?o0, ?o1, ?o2, ?o3, ?o4, ?o5, ?o6, ?o7, ?o8, ?o9, ?o10, ?o11, ?o12, ?o13, ?o14, ?o15, ?o16, trivial⟩ ?hdone
  case o0 => exact FlowOp4.plain (ga_calm _ _ _ _ _ _ _ _ _ _ _ 0 (by decide)) fun a w s cx => ⟨wanted_none rfl, fun K hK => by
      exact wp_gen [(0, .pointer (some ⟨M, 0, none⟩))] ⟨cx.keep 0 _ (by kernel_rfl) rfl, trivial⟩ (by kernel_rfl) (by kernel_rfl) (hK.out _ w (show VA _ _ _ _ _ _ _ _ 0 _ _ from rfl) (Below.refl _ _))⟩
  case o1 => exact FlowOp4.plain (ga_calm _ _ _ _ _ _ _ _ _ _ _ 1 (by decide)) fun a w s cx => ⟨wanted_none rfl, fun K hK => by
      obtain ⟨v1, e1, r1⟩ := cx.slot 0 32 (by kernel_rfl)
      obtain rfl : v1 = _ := r1
      exact wp_gen [(32, .pointer (some ⟨M, 0, none⟩))] ⟨e1, trivial⟩ (by kernel_rfl) (by kernel_rfl) (hK.out _ w (show VA _ _ _ _ _ _ _ _ 1 _ _ from rfl) (Below.refl _ _))⟩
  case o2 => exact FlowOp4.plain (ga_calm _ _ _ _ _ _ _ _ _ _ _ 2 (by decide)) fun a w s cx => ⟨wanted_none rfl, fun K hK => by
      obtain ⟨v1, e1, r1⟩ := cx.slot 1 33 (by kernel_rfl)
      obtain rfl : v1 = _ := r1
      exact wp_gen [(33, .pointer (some ⟨M, 0, none⟩))] ⟨e1, trivial⟩ (by kernel_rfl) (by kernel_rfl) (hK.out _ w (show VA _ _ _ _ _ _ _ _ 2 _ _ from rfl) (Below.refl _ _))⟩
  case o4 => exact FlowOp4.plain (ga_calm _ _ _ _ _ _ _ _ _ _ _ 4 (by decide)) fun a w s cx => ⟨wanted_none rfl, fun K hK => by
      exact wp_gen [(0, .pointer (some ⟨M, 0, none⟩))] ⟨cx.keep 0 _ (by kernel_rfl) rfl, trivial⟩ (by kernel_rfl) (by kernel_rfl) (hK.out _ w (show VA _ _ _ _ _ _ _ _ 4 _ _ from rfl) (Below.refl _ _))⟩
  case o5 => exact FlowOp4.plain (ga_calm _ _ _ _ _ _ _ _ _ _ _ 5 (by decide)) fun a w s cx => ⟨wanted_none rfl, fun K hK => by
      obtain ⟨v1, e1, r1⟩ := cx.slot 4 36 (by kernel_rfl)
      obtain rfl : v1 = _ := r1
      exact wp_gen [(36, .pointer (some ⟨M, 0, none⟩))] ⟨e1, trivial⟩ (by kernel_rfl) (by kernel_rfl) (hK.out _ w (show VA _ _ _ _ _ _ _ _ 5 _ _ from rfl) (Below.refl _ _))⟩
  case o6 => exact FlowOp4.plain (ga_calm _ _ _ _ _ _ _ _ _ _ _ 6 (by decide)) fun a w s cx => ⟨wanted_none rfl, fun K hK => by
      obtain ⟨v1, e1, r1⟩ := cx.slot 5 37 (by kernel_rfl)
      obtain rfl : v1 = _ := r1
      exact wp_gen [(37, .pointer (some ⟨M, 0, none⟩))] ⟨e1, trivial⟩ (by kernel_rfl) (by kernel_rfl) (hK.out _ w (show VA _ _ _ _ _ _ _ _ 6 _ _ from rfl) (Below.refl _ _))⟩
  case o8 => exact FlowOp4.plain (ga_calm _ _ _ _ _ _ _ _ _ _ _ 8 (by decide)) fun a w s cx => ⟨wanted_none rfl, fun K hK => by
      obtain ⟨v1, e1, r1⟩ := cx.slot 7 39 (by kernel_rfl)
      obtain rfl : v1 = _ := r1
      exact wp_gen [(39, .pointer (some ⟨T, 0, none⟩))] ⟨e1, trivial⟩ (by kernel_rfl) (by kernel_rfl) (hK.out _ w (show VA _ _ _ _ _ _ _ _ 8 _ _ from rfl) (Below.refl _ _))⟩
  case o9 => exact FlowOp4.plain (ga_calm _ _ _ _ _ _ _ _ _ _ _ 9 (by decide)) fun a w s cx => ⟨wanted_none rfl, fun K hK => by
      obtain ⟨v1, e1, r1⟩ := cx.slot 8 40 (by kernel_rfl)
      obtain rfl : v1 = _ := r1
      exact wp_gen [(40, .pointer (some ⟨T, 0, none⟩))] ⟨e1, trivial⟩ (by kernel_rfl) (by kernel_rfl) (hK.out _ w (show VA _ _ _ _ _ _ _ _ 9 _ _ from rfl) (Below.refl _ _))⟩
  case o14 => exact FlowOp4.plain (ga_calm _ _ _ _ _ _ _ _ _ _ _ 14 (by decide)) fun a w s cx => ⟨wanted_none rfl, fun K hK => by
      obtain ⟨v1, e1, r1⟩ := cx.slot 3 35 (by kernel_rfl)
      obtain rfl : v1 = _ := r1
      exact wp_gen [(35, .pointer (some ⟨T, 0, none⟩))] ⟨e1, trivial⟩ (by kernel_rfl) (by kernel_rfl) (hK.out _ w (show VA _ _ _ _ _ _ _ _ 14 _ _ from rfl) (Below.refl _ _))⟩
  case o15 => exact FlowOp4.plain (ga_calm _ _ _ _ _ _ _ _ _ _ _ 15 (by decide)) fun a w s cx => ⟨wanted_none rfl, fun K hK => by
      obtain ⟨v1, e1, r1⟩ := cx.slot 14 46 (by kernel_rfl)
      obtain rfl : v1 = _ := r1
      exact wp_gen [(46, .pointer (some ⟨T, 0, none⟩))] ⟨e1, trivial⟩ (by kernel_rfl) (by kernel_rfl) (hK.out _ w (show VA _ _ _ _ _ _ _ _ 15 _ _ from rfl) (Below.refl _ _))⟩
  case o3 => exact FlowOp4.plain (ga_calm _ _ _ _ _ _ _ _ _ _ _ 3 (by decide)) fun a w s cx => ⟨wanted_none rfl, fun K hK => by
      obtain ⟨gF, gO, gT, gD⟩ : GA _ _ _ _ _ _ _ _ _ _ s w := cx.ground
      obtain ⟨v1, e1, r1⟩ := cx.slot 2 34 (by kernel_rfl)
      obtain rfl : v1 = _ := r1
      exact wp_gen [(34, .pointer (some ⟨M, 0, none⟩))] ⟨e1, trivial⟩ (by kernel_rfl) (run_read rfl rfl (run_cell ((gF.block M hMlt (fun c => by rcases c with c | c; exact hMT c; exact hMo c)).trans h.m) rfl (isAgg24 _))) (hK.out _ w (show VA _ _ _ _ _ _ _ _ 3 _ _ from rfl) (Below.refl _ _))⟩
  case o7 => exact FlowOp4.plain (ga_calm _ _ _ _ _ _ _ _ _ _ _ 7 (by decide)) fun a w s cx => ⟨wanted_none rfl, fun K hK => by
      obtain ⟨gF, gO, gT, gD⟩ : GA _ _ _ _ _ _ _ _ _ _ s w := cx.ground
      obtain ⟨v1, e1, r1⟩ := cx.slot 6 38 (by kernel_rfl)
      obtain rfl : v1 = _ := r1
      exact wp_gen [(38, .pointer (some ⟨M, 0, none⟩))] ⟨e1, trivial⟩ (by kernel_rfl) (run_read rfl rfl (run_cell ((gF.block M hMlt (fun c => by rcases c with c | c; exact hMT c; exact hMo c)).trans h.m) rfl (isAgg24 _))) (hK.out _ w (show VA _ _ _ _ _ _ _ _ 7 _ _ from rfl) (Below.refl _ _))⟩
  case o10 => exact FlowOp4.plain (ga_calm _ _ _ _ _ _ _ _ _ _ _ 10 (by decide)) fun a w s cx => ⟨wanted_none rfl, fun K hK => by
      obtain ⟨gF, gO, gT, gD⟩ : GA _ _ _ _ _ _ _ _ _ _ s w := cx.ground
      obtain ⟨v1, e1, r1⟩ := cx.slot 9 41 (by kernel_rfl)
      obtain rfl : v1 = _ := r1
      have n16 : s 16 = false := by
        cases hs : s 16 with
        | false => rfl
        | true =>
          have c13 := cx.down 16 _ rfl hs 13 (by kernel_rfl)
          have c10 := cx.down 13 _ rfl c13 10 (by kernel_rfl)
          rw [cx.new] at c10; cases c10
      exact wp_gen [(41, .pointer (some ⟨T, 1, none⟩))] ⟨e1, trivial⟩ (by kernel_rfl) (run_read rfl rfl (run_cell (gT n16) rfl (isAgg74 _))) (hK.out _ w (show VA _ _ _ _ _ _ _ _ 10 _ _ from rfl) (Below.refl _ _))⟩
  case o11 => exact FlowOp4.plain (ga_calm _ _ _ _ _ _ _ _ _ _ _ 11 (by decide)) fun a w s cx => ⟨wanted_none rfl, fun K hK => by
      obtain ⟨gF, gO, gT, gD⟩ : GA _ _ _ _ _ _ _ _ _ _ s w := cx.ground
      exact wp_gen [(3, .pointer (some ⟨b, 0, none⟩))] ⟨cx.keep 3 _ (by kernel_rfl) rfl, trivial⟩ (by kernel_rfl) (run_read rfl rfl (run_loadVar_row _ _ _ _ _ _ _ ((gF.block b hblt (fun c => by rcases c with c | c; exact hbT c; exact hbne c)).trans hb) Try.underlying72 rfl (by rw [hX]; kernel_rfl))) (hK.out _ w (show VA _ _ _ _ _ _ _ _ 11 _ _ from rfl) (Below.refl _ _))⟩
  case o12 => exact FlowOp4.plain (ga_calm _ _ _ _ _ _ _ _ _ _ _ 12 (by decide)) fun a w s cx => ⟨wanted_none rfl, fun K hK => by
      obtain ⟨v1, e1, r1⟩ := cx.slot 11 43 (by kernel_rfl)
      obtain rfl : v1 = _ := r1
      exact wp_gen [(43, .agg X)] ⟨e1, trivial⟩ (by kernel_rfl) (exec_bs74 hX rfl rfl) (hK.out _ _ (show VA _ _ _ _ _ _ _ _ 12 _ _ from fun _ => ⟨w.heap.size, rfl, heap_alloc_new w _⟩) ((Below.refl _ w).alloc (Nat.le_refl _) _))⟩
  case o13 =>
    exact FlowOp4.turn fun a w s cx => ⟨wanted_none rfl, fun K hK => by
      obtain ⟨v1, e1, r1⟩ := cx.slot 10 42 (by kernel_rfl)
      obtain ⟨v2, e2, r2⟩ := cx.slot 12 44 (by kernel_rfl)
      have r1 : v1 = uv := r1
      rw [r1] at e1
      clear r1
      obtain ⟨g, rfl, hg⟩ : isBs _ _ v2 w := r2 cx.new
      obtain ⟨gF, gO, gT, gD⟩ : GA _ _ _ _ _ _ _ _ _ _ s w := cx.ground
      have n16 : s 16 = false := by
        cases hs : s 16 with
        | false => rfl
        | true =>
          have c13 := cx.down 16 _ rfl hs 13 (by kernel_rfl)
          rw [cx.new] at c13; cases c13
      refine wp_append_own w (.tmp 42) (.tmp 44) 74 rfl B 72 i0 _ 128 256 Try.underlying74 hi hz0 hz1 hz2 (by simp [agg_cells, rowOf_size]) (by decide) (uv) U.length (celU U) (ev_tmp e1) (gO cx.new) ⟨g, 0, none⟩ 1 1 (X).toList (ev_tmp e2) (by simp [hX]) (World.news_of_block hg) h1c (by unfold maxLen; omega) (by omega) (Nat.le_trans h.size gF.size) fun v' w' hown' hgrow _ => ?_
      refine hK.out _ w' ⟨gF.grown hgrow (fun k hk => .inr hk), ?g1, ?g2, ?g3⟩ ?gv ?gj
      case g1 => intro c; simp [mark] at c
      case g2 => exact fun _ => (hgrow.block T (Nat.lt_of_lt_of_le hTlt gF.size) (fun hq => hTo hq.symm)).trans (gT n16)
      case g3 => intro c; have c := mark_true (by decide) c; rw [n16] at c; cases c
      case gv => exact fun _ => hown'
      case gj =>
        intro j u hj hu
        unfold VA at *
        split at hu
        · exact fun c => by simp [mark] at c
        · rw [cx.new] at hj; cases hj
        · exact hu⟩
  case o16 =>
    exact FlowOp4.turn fun a w s cx => ⟨wanted_none rfl, fun K hK => by
      obtain ⟨v1, e1, r1⟩ := cx.slot 15 47 (by kernel_rfl)
      obtain ⟨v2, e2, r2⟩ := cx.slot 13 45 (by kernel_rfl)
      obtain rfl : v1 = _ := r1
      obtain ⟨gF, gO, gT, gD⟩ : GA _ _ _ _ _ _ _ _ _ _ s w := cx.ground
      have hO : w.ownsRow B 72 128 v2 (U.length + 1) ((celU U) ++ (X).toList) := r2 cx.new
      have hT := gT cx.new
      obtain ⟨va, vc, hv2, -, -⟩ := owns_slice hO
      have hst : (storeVar 74 ⟨T, 1, none⟩ v2).run Try.prog w = .ok () (w.setCell ⟨T, 1, none⟩ v2) := by rw [hv2]; exact run_store_slice hT (show 1 < 2 by decide) (sizeOf74 _)
      have hk := hK.out undef (w.setCell ⟨T, 1, none⟩ v2) ⟨gF.set (.inl rfl), fun c => ?g1, fun c => ?g2, fun _ => ⟨v2, set_at v2 hT, owns_same hO fun k hk => ?g4⟩⟩ rfl ?gj
      · exact wp_store_gen [(47, .pointer (some ⟨T, 1, none⟩)), (45, v2)] ⟨e1, e2, trivial⟩ (by kernel_rfl) rfl rfl rfl rfl hst hk
      case g1 => have c := mark_same c; have := cx.before 13 (by kernel_rfl); rw [c] at this; cases this
      case g2 => simp [mark] at c
      case g4 =>
        obtain ⟨_, cur, hc⟩ := own_in hO hk
        exact Below.heap_setCell _ _ _ _ (ne_tag hT hc (by decide)).symm
      case gj =>
        intro j u hj hu
        unfold VA at *
        split at hu
        · exact fun c => hu (mark_same c) |>.elim fun g h => ⟨g, h.1, (Below.heap_setCell _ _ _ _ (ne_tag hT h.2 (by decide)).symm).trans h.2⟩
        · exact fun c => by simp [mark] at c
        · exact hu⟩
  case hdone =>
    intro a w s hs hG hz hd hk hgot
    obtain ⟨gF, gO, gT, gD⟩ : GA _ _ _ _ _ _ _ _ _ _ s w := hG
    exact hK a w ⟨hz, hd, hk 0 (by kernel_rfl), hk 3 (by kernel_rfl), hk 4 (by kernel_rfl), trivial⟩ gF (gD (hs 16 (by decide)))
set_option maxRecDepth 100000 in
set_option maxHeartbeats 2000000 in
theorem add_R6 {Q : Exit → Act → World → Prop} (B M T K b : Nat) (pv uv : Value) (U : List (Nat → Int)) (P : List Nat) (nn : Int) (a : Act) (w0 : World) (h : Mk' w0 B M T K pv uv U P) (hn : P.length < 8704)
    (ha : At 64 [(0, .pointer (some ⟨M, 0, none⟩)), (3, .pointer (some ⟨b, 0, none⟩)), (4, .int .u16 nn)] a)
    (hK : ∀ a w', At 64 [(0, .pointer (some ⟨M, 0, none⟩)), (3, .pointer (some ⟨b, 0, none⟩)), (4, .int .u16 nn)] a → Far (fun k => k = T ∨ (pv).ownBlock = some k) w0 w' → (∃ v', w'.heap[T]? = some (.cells (#[v', uv]) 76 (0, 0)) ∧ w'.ownsRow B 70 1 v' (P.length + 1) (celP P ++ (#[.int .u16 nn]).toList)) → Q .normal a w') :
    Code.wp Try.prog (sq 3 body49) Q a w0 := by
  obtain ⟨i0, hi, hz0, hz1, hz2⟩ := info_parts info70
  have hMT : M ≠ T := ne_tag h.m h.t (by decide)
  have hMo : (pv).ownBlock ≠ some M := fun hq => by
    obtain ⟨_, cur, hc⟩ := own_in h.p hq
    exact ne_tag h.m hc (by decide) rfl
  have hTo : (pv).ownBlock ≠ some T := fun hq => by
    obtain ⟨_, cur, hc⟩ := own_in h.p hq
    exact ne_tag h.t hc (by decide) rfl
  have hMlt := (Array.getElem?_eq_some_iff.1 h.m).1
  have hTlt := (Array.getElem?_eq_some_iff.1 h.t).1
  obtain ⟨f, rfl, s0, s3, s4, -⟩ := ha.lit
  change Code.wp _ _ _ ⟨#[f 0, f 1, f 2, f 3, f 4, f 5, f 6, f 7, f 8, f 9, f 10, f 11, f 12, f 13, f 14, f 15, f 16, f 17, f 18, f 19, f 20, f 21, f 22, f 23, f 24, f 25, f 26, f 27, f 28, f 29, f 30, f 31, f 32, f 33, f 34, f 35, f 36, f 37, f 38, f 39, f 40, f 41, f 42, f 43, f 44, f 45, f 46, f 47, f 48, f 49, f 50, f 51, f 52, f 53, f 54, f 55, f 56, f 57, f 58, f 59, f 60, f 61, f 62, f 63], []⟩ _
  simp only at s0 s3 s4
  simp only [s0, s3, s4]
  clear s0 s3 s4
  conv => arg 2; whnf
  refine wp_region_turn (GA (fun v' => #[v', uv]) B T 70 1 P.length (pv) (celP P) (#[.int .u16 nn]) w0) (VA [.pointer (some ⟨M, 0, none⟩), .pointer (some ⟨M, 0, none⟩), .pointer (some ⟨M, 0, none⟩), .pointer (some ⟨T, 0, none⟩), .pointer (some ⟨M, 0, none⟩), .pointer (some ⟨M, 0, none⟩), .pointer (some ⟨M, 0, none⟩), .pointer (some ⟨T, 0, none⟩), .pointer (some ⟨T, 0, none⟩), .pointer (some ⟨T, 0, none⟩), pv, .int .u16 nn, undef, undef, .pointer (some ⟨T, 0, none⟩), .pointer (some ⟨T, 0, none⟩), undef] B 70 1 P.length (celP P) (#[.int .u16 nn])) 64 rfl (by kernel_rfl) (by kernel_rfl) (fun w1 hb1 _ s hs => ⟨(Far.refl _ _).below hb1, fun _ => owns_below h.p hb1, fun _ => below_at h.t hb1, fun c => by rw [hs 16] at c; cases c⟩) ⟨?o0, ?o1, ?o2, ?o3, ?o4, ?o5, ?o6, ?o7, ?o8, ?o9, ?o10, ?o11, ?o12, ?o13, ?o14, ?o15, ?o16, trivial⟩ ?hdone
  case o0 => exact FlowOp4.plain (ga_calm _ _ _ _ _ _ _ _ _ _ _ 0 (by decide)) fun a w s cx => ⟨wanted_none rfl, fun K hK => by
      exact wp_gen [(0, .pointer (some ⟨M, 0, none⟩))] ⟨cx.keep 0 _ (by kernel_rfl) rfl, trivial⟩ (by kernel_rfl) (by kernel_rfl) (hK.out _ w (show VA _ _ _ _ _ _ _ _ 0 _ _ from rfl) (Below.refl _ _))⟩
  case o1 => exact FlowOp4.plain (ga_calm _ _ _ _ _ _ _ _ _ _ _ 1 (by decide)) fun a w s cx => ⟨wanted_none rfl, fun K hK => by
      obtain ⟨v1, e1, r1⟩ := cx.slot 0 48 (by kernel_rfl)
      obtain rfl : v1 = _ := r1
      exact wp_gen [(48, .pointer (some ⟨M, 0, none⟩))] ⟨e1, trivial⟩ (by kernel_rfl) (by kernel_rfl) (hK.out _ w (show VA _ _ _ _ _ _ _ _ 1 _ _ from rfl) (Below.refl _ _))⟩
  case o2 => exact FlowOp4.plain (ga_calm _ _ _ _ _ _ _ _ _ _ _ 2 (by decide)) fun a w s cx => ⟨wanted_none rfl, fun K hK => by
      obtain ⟨v1, e1, r1⟩ := cx.slot 1 49 (by kernel_rfl)
      obtain rfl : v1 = _ := r1
      exact wp_gen [(49, .pointer (some ⟨M, 0, none⟩))] ⟨e1, trivial⟩ (by kernel_rfl) (by kernel_rfl) (hK.out _ w (show VA _ _ _ _ _ _ _ _ 2 _ _ from rfl) (Below.refl _ _))⟩
  case o4 => exact FlowOp4.plain (ga_calm _ _ _ _ _ _ _ _ _ _ _ 4 (by decide)) fun a w s cx => ⟨wanted_none rfl, fun K hK => by
      exact wp_gen [(0, .pointer (some ⟨M, 0, none⟩))] ⟨cx.keep 0 _ (by kernel_rfl) rfl, trivial⟩ (by kernel_rfl) (by kernel_rfl) (hK.out _ w (show VA _ _ _ _ _ _ _ _ 4 _ _ from rfl) (Below.refl _ _))⟩
  case o5 => exact FlowOp4.plain (ga_calm _ _ _ _ _ _ _ _ _ _ _ 5 (by decide)) fun a w s cx => ⟨wanted_none rfl, fun K hK => by
      obtain ⟨v1, e1, r1⟩ := cx.slot 4 52 (by kernel_rfl)
      obtain rfl : v1 = _ := r1
      exact wp_gen [(52, .pointer (some ⟨M, 0, none⟩))] ⟨e1, trivial⟩ (by kernel_rfl) (by kernel_rfl) (hK.out _ w (show VA _ _ _ _ _ _ _ _ 5 _ _ from rfl) (Below.refl _ _))⟩
  case o6 => exact FlowOp4.plain (ga_calm _ _ _ _ _ _ _ _ _ _ _ 6 (by decide)) fun a w s cx => ⟨wanted_none rfl, fun K hK => by
      obtain ⟨v1, e1, r1⟩ := cx.slot 5 53 (by kernel_rfl)
      obtain rfl : v1 = _ := r1
      exact wp_gen [(53, .pointer (some ⟨M, 0, none⟩))] ⟨e1, trivial⟩ (by kernel_rfl) (by kernel_rfl) (hK.out _ w (show VA _ _ _ _ _ _ _ _ 6 _ _ from rfl) (Below.refl _ _))⟩
  case o8 => exact FlowOp4.plain (ga_calm _ _ _ _ _ _ _ _ _ _ _ 8 (by decide)) fun a w s cx => ⟨wanted_none rfl, fun K hK => by
      obtain ⟨v1, e1, r1⟩ := cx.slot 7 55 (by kernel_rfl)
      obtain rfl : v1 = _ := r1
      exact wp_gen [(55, .pointer (some ⟨T, 0, none⟩))] ⟨e1, trivial⟩ (by kernel_rfl) (by kernel_rfl) (hK.out _ w (show VA _ _ _ _ _ _ _ _ 8 _ _ from rfl) (Below.refl _ _))⟩
  case o9 => exact FlowOp4.plain (ga_calm _ _ _ _ _ _ _ _ _ _ _ 9 (by decide)) fun a w s cx => ⟨wanted_none rfl, fun K hK => by
      obtain ⟨v1, e1, r1⟩ := cx.slot 8 56 (by kernel_rfl)
      obtain rfl : v1 = _ := r1
      exact wp_gen [(56, .pointer (some ⟨T, 0, none⟩))] ⟨e1, trivial⟩ (by kernel_rfl) (by kernel_rfl) (hK.out _ w (show VA _ _ _ _ _ _ _ _ 9 _ _ from rfl) (Below.refl _ _))⟩
  case o14 => exact FlowOp4.plain (ga_calm _ _ _ _ _ _ _ _ _ _ _ 14 (by decide)) fun a w s cx => ⟨wanted_none rfl, fun K hK => by
      obtain ⟨v1, e1, r1⟩ := cx.slot 3 51 (by kernel_rfl)
      obtain rfl : v1 = _ := r1
      exact wp_gen [(51, .pointer (some ⟨T, 0, none⟩))] ⟨e1, trivial⟩ (by kernel_rfl) (by kernel_rfl) (hK.out _ w (show VA _ _ _ _ _ _ _ _ 14 _ _ from rfl) (Below.refl _ _))⟩
  case o15 => exact FlowOp4.plain (ga_calm _ _ _ _ _ _ _ _ _ _ _ 15 (by decide)) fun a w s cx => ⟨wanted_none rfl, fun K hK => by
      obtain ⟨v1, e1, r1⟩ := cx.slot 14 62 (by kernel_rfl)
      obtain rfl : v1 = _ := r1
      exact wp_gen [(62, .pointer (some ⟨T, 0, none⟩))] ⟨e1, trivial⟩ (by kernel_rfl) (by kernel_rfl) (hK.out _ w (show VA _ _ _ _ _ _ _ _ 15 _ _ from rfl) (Below.refl _ _))⟩
  case o3 => exact FlowOp4.plain (ga_calm _ _ _ _ _ _ _ _ _ _ _ 3 (by decide)) fun a w s cx => ⟨wanted_none rfl, fun K hK => by
      obtain ⟨gF, gO, gT, gD⟩ : GA _ _ _ _ _ _ _ _ _ _ s w := cx.ground
      obtain ⟨v1, e1, r1⟩ := cx.slot 2 50 (by kernel_rfl)
      obtain rfl : v1 = _ := r1
      exact wp_gen [(50, .pointer (some ⟨M, 0, none⟩))] ⟨e1, trivial⟩ (by kernel_rfl) (run_read rfl rfl (run_cell ((gF.block M hMlt (fun c => by rcases c with c | c; exact hMT c; exact hMo c)).trans h.m) rfl (isAgg24 _))) (hK.out _ w (show VA _ _ _ _ _ _ _ _ 3 _ _ from rfl) (Below.refl _ _))⟩
  case o7 => exact FlowOp4.plain (ga_calm _ _ _ _ _ _ _ _ _ _ _ 7 (by decide)) fun a w s cx => ⟨wanted_none rfl, fun K hK => by
      obtain ⟨gF, gO, gT, gD⟩ : GA _ _ _ _ _ _ _ _ _ _ s w := cx.ground
      obtain ⟨v1, e1, r1⟩ := cx.slot 6 54 (by kernel_rfl)
      obtain rfl : v1 = _ := r1
      exact wp_gen [(54, .pointer (some ⟨M, 0, none⟩))] ⟨e1, trivial⟩ (by kernel_rfl) (run_read rfl rfl (run_cell ((gF.block M hMlt (fun c => by rcases c with c | c; exact hMT c; exact hMo c)).trans h.m) rfl (isAgg24 _))) (hK.out _ w (show VA _ _ _ _ _ _ _ _ 7 _ _ from rfl) (Below.refl _ _))⟩
  case o10 => exact FlowOp4.plain (ga_calm _ _ _ _ _ _ _ _ _ _ _ 10 (by decide)) fun a w s cx => ⟨wanted_none rfl, fun K hK => by
      obtain ⟨gF, gO, gT, gD⟩ : GA _ _ _ _ _ _ _ _ _ _ s w := cx.ground
      obtain ⟨v1, e1, r1⟩ := cx.slot 9 57 (by kernel_rfl)
      obtain rfl : v1 = _ := r1
      have n16 : s 16 = false := by
        cases hs : s 16 with
        | false => rfl
        | true =>
          have c13 := cx.down 16 _ rfl hs 13 (by kernel_rfl)
          have c10 := cx.down 13 _ rfl c13 10 (by kernel_rfl)
          rw [cx.new] at c10; cases c10
      exact wp_gen [(57, .pointer (some ⟨T, 0, none⟩))] ⟨e1, trivial⟩ (by kernel_rfl) (run_read rfl rfl (run_cell (gT n16) rfl (isAgg73 _))) (hK.out _ w (show VA _ _ _ _ _ _ _ _ 10 _ _ from rfl) (Below.refl _ _))⟩
  case o11 => exact FlowOp4.plain (ga_calm _ _ _ _ _ _ _ _ _ _ _ 11 (by decide)) fun a w s cx => ⟨wanted_none rfl, fun K hK => by
      exact wp_gen [(4, .int .u16 nn)] ⟨cx.keep 4 _ (by kernel_rfl) rfl, trivial⟩ (by kernel_rfl) (by kernel_rfl) (hK.out _ w (show VA _ _ _ _ _ _ _ _ 11 _ _ from rfl) (Below.refl _ _))⟩
  case o12 => exact FlowOp4.plain (ga_calm _ _ _ _ _ _ _ _ _ _ _ 12 (by decide)) fun a w s cx => ⟨wanted_none rfl, fun K hK => by
      obtain ⟨v1, e1, r1⟩ := cx.slot 11 59 (by kernel_rfl)
      obtain rfl : v1 = _ := r1
      exact wp_gen [(59, .int .u16 nn)] ⟨e1, trivial⟩ (by kernel_rfl) (exec_bs73 rfl rfl) (hK.out _ _ (show VA _ _ _ _ _ _ _ _ 12 _ _ from fun _ => ⟨w.heap.size, rfl, heap_alloc_new w _⟩) ((Below.refl _ w).alloc (Nat.le_refl _) _))⟩
  case o13 =>
    exact FlowOp4.turn fun a w s cx => ⟨wanted_none rfl, fun K hK => by
      obtain ⟨v1, e1, r1⟩ := cx.slot 10 58 (by kernel_rfl)
      obtain ⟨v2, e2, r2⟩ := cx.slot 12 60 (by kernel_rfl)
      have r1 : v1 = pv := r1
      rw [r1] at e1
      clear r1
      obtain ⟨g, rfl, hg⟩ : isBs _ _ v2 w := r2 cx.new
      obtain ⟨gF, gO, gT, gD⟩ : GA _ _ _ _ _ _ _ _ _ _ s w := cx.ground
      have n16 : s 16 = false := by
        cases hs : s 16 with
        | false => rfl
        | true =>
          have c13 := cx.down 16 _ rfl hs 13 (by kernel_rfl)
          rw [cx.new] at c13; cases c13
      refine wp_append_own w (.tmp 58) (.tmp 60) 73 rfl B 70 i0 _ 1 2 Try.underlying73 hi hz0 hz1 hz2 rfl (by decide) (pv) P.length (celP P) (ev_tmp e1) (gO cx.new) ⟨g, 0, none⟩ 1 1 (#[.int .u16 nn]).toList (ev_tmp e2) rfl (World.news_of_block hg) (by simp [Value.oneCell']) (by unfold maxLen; omega) (by omega) (Nat.le_trans h.size gF.size) fun v' w' hown' hgrow _ => ?_
      refine hK.out _ w' ⟨gF.grown hgrow (fun k hk => .inr hk), ?g1, ?g2, ?g3⟩ ?gv ?gj
      case g1 => intro c; simp [mark] at c
      case g2 => exact fun _ => (hgrow.block T (Nat.lt_of_lt_of_le hTlt gF.size) (fun hq => hTo hq.symm)).trans (gT n16)
      case g3 => intro c; have c := mark_true (by decide) c; rw [n16] at c; cases c
      case gv => exact fun _ => hown'
      case gj =>
        intro j u hj hu
        unfold VA at *
        split at hu
        · exact fun c => by simp [mark] at c
        · rw [cx.new] at hj; cases hj
        · exact hu⟩
  case o16 =>
    exact FlowOp4.turn fun a w s cx => ⟨wanted_none rfl, fun K hK => by
      obtain ⟨v1, e1, r1⟩ := cx.slot 15 63 (by kernel_rfl)
      obtain ⟨v2, e2, r2⟩ := cx.slot 13 61 (by kernel_rfl)
      obtain rfl : v1 = _ := r1
      obtain ⟨gF, gO, gT, gD⟩ : GA _ _ _ _ _ _ _ _ _ _ s w := cx.ground
      have hO : w.ownsRow B 70 1 v2 (P.length + 1) ((celP P) ++ (#[.int .u16 nn]).toList) := r2 cx.new
      have hT := gT cx.new
      obtain ⟨va, vc, hv2, -, -⟩ := owns_slice hO
      have hst : (storeVar 73 ⟨T, 0, none⟩ v2).run Try.prog w = .ok () (w.setCell ⟨T, 0, none⟩ v2) := by rw [hv2]; exact run_store_slice hT (show 0 < 2 by decide) (sizeOf73 _)
      have hk := hK.out undef (w.setCell ⟨T, 0, none⟩ v2) ⟨gF.set (.inl rfl), fun c => ?g1, fun c => ?g2, fun _ => ⟨v2, set_at v2 hT, owns_same hO fun k hk => ?g4⟩⟩ rfl ?gj
      · exact wp_store_gen [(63, .pointer (some ⟨T, 0, none⟩)), (61, v2)] ⟨e1, e2, trivial⟩ (by kernel_rfl) rfl rfl rfl rfl hst hk
      case g1 => have c := mark_same c; have := cx.before 13 (by kernel_rfl); rw [c] at this; cases this
      case g2 => simp [mark] at c
      case g4 =>
        obtain ⟨_, cur, hc⟩ := own_in hO hk
        exact Below.heap_setCell _ _ _ _ (ne_tag hT hc (by decide)).symm
      case gj =>
        intro j u hj hu
        unfold VA at *
        split at hu
        · exact fun c => hu (mark_same c) |>.elim fun g h => ⟨g, h.1, (Below.heap_setCell _ _ _ _ (ne_tag hT h.2 (by decide)).symm).trans h.2⟩
        · exact fun c => by simp [mark] at c
        · exact hu⟩
  case hdone =>
    intro a w s hs hG hz hd hk hgot
    obtain ⟨gF, gO, gT, gD⟩ : GA _ _ _ _ _ _ _ _ _ _ s w := hG
    exact hK a w ⟨hz, hd, hk 0 (by kernel_rfl), hk 3 (by kernel_rfl), hk 4 (by kernel_rfl), trivial⟩ gF (gD (hs 16 (by decide)))
end Go.Proofs.Ytookbgmolggohaa
