/-
  What the statements' fedUnits leans on: UnitDecoder's Held and End, a new one and a nil one; how lists of units come in. Conditions: nothing else holds the decoder.
-/
import Derived.Test.YtabofadjnbpjkacDoorFh
import Derived.Test.YtabofadjnbpjkacDoorLawE
import Derived.Test.YtabofadjnbpjkacDoorTn
import Derived.Test.YtabofadjnbpjkacDoorRd
import Derived.Test.YtabofadjnbpjkacDoorSame
import Derived.BigQuiet
import Derived.Deep.QuietTactic
namespace Go.Proofs.YtabofadjnbpjkacDoor
open Go.RowKit Go.Lib
theorem fu_ne (u : Int) (l : List Int) : fu (u :: l) ≠ [] := by
  by_cases p : u < 55296 ∨ 57343 < u
  · rw [fu_plain _ _ p]; simp
  · by_cases q : u < 56320
    · cases l with
      | nil => rw [fu_end _ (by omega) q]; simp
      | cons v l =>
        by_cases r : v < 56320 ∨ 57343 < v
        · rw [fu_lone _ _ _ (by omega) q r]; simp
        · rw [fu_pair _ _ _ (by omega) q (by omega) (by omega)]; simp
    · rw [fu_low _ _ (by omega) (by omega)]; simp
/-- What a piece more tells, and how it parts from what is held. -/
theorem told_ex (A l : List Int) : ∃ M, fu (sureU (A ++ l)) = fu (sureU A) ++ M ∧ fuH (hlU 0 A) l = M ++ fuH (hlU 0 (A ++ l)) [] := by
  have e1 := fu_two A l
  have e2 := fu_two (A ++ l) []
  rw [List.append_nil] at e2
  by_cases c : hlU 0 (A ++ l) = 0
  · refine ⟨fuH (hlU 0 A) l, ?_, ?_⟩
    · rw [← e1, e2, c, fuH_zero]; simp [fu]
    · rw [c, fuH_zero]; simp [fu]
  · have hh := hlU_high _ c
    have e3 : fuH (hlU 0 (A ++ l)) [] = [65533] := by rw [fuH_held _ _ hh.1, fu_end _ hh.1 hh.2]
    rw [e3] at e2 ⊢
    rcases List.eq_nil_or_concat (fuH (hlU 0 A) l) with h | ⟨M, x, h⟩
    · exfalso
      have hl : l = [] := by
        unfold fuH at h
        split at h
        · cases l with
          | nil => rfl
          | cons u l => exact absurd h (fu_ne u l)
        · exact absurd h (fu_ne _ l)
      subst hl
      rw [List.append_nil] at c
      rw [fuH_held _ _ (hlU_high A c).1, fu_end _ (hlU_high A c).1 (hlU_high A c).2] at h
      cases h
    · rw [List.concat_eq_append] at h
      refine ⟨M, ?_, ?_⟩
      · rw [h, e2, ← List.append_assoc] at e1
        exact (List.append_inj' e1 rfl).1
      · rw [h]
        rw [h, e2, ← List.append_assoc] at e1
        rw [(List.append_inj' e1 rfl).2]
/-- A list of lists of units that came in. -/
def URows (w : World) (v : Value) (rs : List (List Int)) : Prop :=
  ∃ a c, v = .slice a rs.length c ∧ (0 < rs.length → ∃ g o, a = some ⟨g, o, none⟩ ∧ g < w.heap.size ∧ ∀ j, j < rs.length → ∃ x, w.cell? ⟨g, o + j, none⟩ = some x ∧ RdsA .u16 w x (rs.getD j []))
theorem run_tail (w : World) (a : Option Addr) (len cap k : Nat) (hk : k ≤ len) : (Instr.sliceAt 33 (.slice a len cap) (some (.int .i64 k)) none none).run Tryd.prog w = .ok (sliced a k len cap 1) w := by
  have hu : Tryd.prog.underlying 33 = some (.slice (Tryd.prog.elem 33)) := by kernel_rfl
  have hs : (sizeOf (Tryd.prog.elem 33)).run Tryd.prog w = .ok 1 w := by kernel_rfl
  rw [run_sliceAt_slice w 33 _ _ _ _ hu, run_slice_l w 33 a len cap hu .i64 k (by omega) (by omega), hs]
  simp
/-- The end of a list reads as the end of its numbers. -/
theorem rds_tail {W : World} {b : Nat} {a : Option Addr} {cap : Nat} {L M : List Int} (h : W.ownsRow b 21 1 (.slice a (L ++ M).length cap) (L ++ M).length (((L ++ M).map fun z => Value.int .i32 z))) : Rds .i32 W (sliced a L.length (L ++ M).length cap 1) M := by
  unfold sliced
  by_cases hM : M = []
  · subst hM
    refine ⟨_, _, by rw [List.append_nil, Nat.sub_self]; rfl, fun h => by simp at h⟩
  · have hlen : 0 < M.length := List.length_pos_iff.2 hM
    have hl : (L ++ M).length = L.length + M.length := List.length_append
    obtain ⟨h1, ⟨h2, h0⟩ | ⟨g, cap', cur, h2, hb, hg, hc, hr⟩⟩ := h
    · omega
    · have e := h2
      injection e with e1 e2 e3
      subst e1 e3
      rw [if_neg (by omega)]
      refine ⟨_, _, by rw [show (L ++ M).length - L.length = M.length by omega], fun _ => ⟨g, L.length, ?_, fun j hj => ?_⟩⟩
      · show some ((⟨g, 0, none⟩ : Addr).add (L.length * 1)) = _
        unfold Addr.add
        split <;> simp_all
      · refine owns_cell (W := W) (b := b) (e := 21) (size := 1) (n := (L ++ M).length) (v := .slice (some ⟨g, 0, none⟩) (L ++ M).length cap) (xs := ((L ++ M).map fun z => Value.int .i32 z)) ⟨h1, .inr ⟨g, cap, cur, h2, hb, hg, hc, hr⟩⟩ rfl (L.length + j) _ ?_
        rw [List.getElem?_map, List.getElem?_append_right (by omega), show L.length + j - L.length = j by omega]
        simp [List.getD, List.getElem?_eq_getElem hj]
/-- An act from what its slots hold. -/
theorem act_is (a a0 : Act) (l : List (Nat × Value)) (hsz : a.tmps.size = a0.tmps.size) (hd : a.defers = a0.defers) (hk : ∀ t, (l.map (·.1)).contains t = false → a.tmps[t]? = a0.tmps[t]?) (hg : AllIn a l) : a = { tmps := l.foldl (fun ts p => ts.setIfInBounds p.1 p.2) a0.tmps, defers := a0.defers } := by
  have key : ∀ (l : List (Nat × Value)) (ts : Array Value), AllIn a l → ts.size = a.tmps.size → (∀ t, (l.map (·.1)).contains t = false → a.tmps[t]? = ts[t]?) → a.tmps = l.foldl (fun ts p => ts.setIfInBounds p.1 p.2) ts := by
    intro l
    induction l with
    | nil =>
      intro ts _ hs hk
      exact Array.ext_getElem? fun t => hk t rfl
    | cons p l ih =>
      intro ts hg hs hk
      refine ih (ts.setIfInBounds p.1 p.2) hg.2 (by simpa using hs) fun t ht => ?_
      by_cases e : p.1 = t
      · subst e
        have hl : p.1 < a.tmps.size := (Array.getElem?_eq_some_iff.1 hg.1).1
        rw [hg.1]
        simp [hs, hl]
      · rw [Array.getElem?_setIfInBounds_ne e]
        refine hk t ?_
        rw [List.map_cons, List.contains_cons, ht]
        simp [Ne.symm e]
  cases a with
  | mk ts df =>
    simp only at hd
    rw [hd]
    have := key l a0.tmps hg hsz.symm hk
    simp only at this
    rw [this]
theorem keptAll_of {ops : Array Oper} {l : List Nat} (h : (ops.all fun o => match o.dst with | some t => l.contains t | none => true) = true) (t : Nat) (ht : l.contains t = false) : keptAll ops t = true := by
  simp only [keptAll, Array.all_eq_true_iff_forall_mem] at h ⊢
  intro o ho
  have := h o ho
  cases hd : o.dst with
  | none => rfl
  | some d =>
    rw [hd] at this
    simp only at this
    have hne : d ≠ t := fun e => by rw [e, ht] at this; cases this
    simpa using hne
theorem slice_op (o : Oper) (t u : Nat) (ho : o.op = .slice 33 (.tmp t) (some (.tmp u)) none none) (hne : (u == t) = false) (w : World) (a : Option Addr) (len cap k : Nat) (hk : k ≤ len) : (execOp (rho [(t, .slice a len cap), (u, .int .i64 (k : Nat))]) o).run Tryd.prog w = .ok (.value (sliced a k len cap 1)) w := by
  have e1 : rho [(t, .slice a len cap), (u, .int .i64 (k : Nat))] (.tmp t) = .slice a len cap := by simp [rho]
  have e2 : rho [(t, .slice a len cap), (u, .int .i64 (k : Nat))] (.tmp u) = .int .i64 (k : Nat) := by simp [rho, List.lookup, hne]
  unfold execOp
  simp only [ho, e1, e2, Option.map_some, Option.map_none, Sem.run_bind, run_tail w a len cap k hk, Result.andThen_ok, Sem.run_pure]
theorem wp_keep {P : Program} {c : Code} {Q : Exit → Act → World → Prop} {a : Act} {w : World} (h : ∀ a0 : Act, a0 = a → c.wp P Q a0 w) : c.wp P Q a w := h a rfl
theorem owns_kb {W W' : World} {b e size n B n₀ : Nat} {v : Value} {xs : List Value} (h : W.ownsRow b e size v n xs) (hB : B < b) (hk : Kb B n₀ W W') : W'.ownsRow b e size v n xs := by
  obtain ⟨h1, h2 | ⟨g, cap, cur, rfl, h3, h4, h5⟩⟩ := h
  · exact ⟨h1, .inl h2⟩
  · exact ⟨h1, .inr ⟨g, cap, cur, rfl, h3, (hk.oth g (Array.getElem?_eq_some_iff.1 h4).1 (by omega)).trans h4, h5⟩⟩
theorem boxed_below {W W' : World} {B : Nat} {t : TypeId} {v : Value} (h : Boxed W B t v) (hb : Below W.heap.size W W') : Boxed W' B t v := (hb.block B h.lt).trans h
set_option maxRecDepth 100000 in
theorem held_any (B : Nat) (h : Int) (q : Bool) (w : World) (hq : (h != 0) = q) (hb : Boxed w B 67 (.int .u16 h)) : Calls Tryd.prog 13 #[.pointer (some ⟨B, 0, none⟩)] w fun e w' => e = .returned (.tuple #[.int .u16 h, .bool q]) ∧ Below w.heap.size w w' := by
  have hc := hb.cell
  clear hb
  go_enter Tryd.func13, Tryd.ntmps13
  go_wp2
  go_quiet (fail)
  go_wp2
  go_ret2
  rw [← hq]
  exact ⟨rfl, below_drewN (Below.refl _ _) _⟩
set_option maxRecDepth 100000 in
theorem held_nil (w : World) : Calls Tryd.prog 13 #[.pointer none] w fun e w' => e = .returned (.tuple #[.int .u16 0, .bool false]) ∧ w' = w := by
  go_enter Tryd.func13, Tryd.ntmps13
  go_wp2
  go_ret2
  exact ⟨rfl, rfl⟩
set_option maxRecDepth 100000 in
theorem end_nil (w : World) : Calls Tryd.prog 15 #[.pointer none] w fun e w' => e = .returned (.slice none 0 0) ∧ w' = w := by
  go_enter Tryd.func15, Tryd.ntmps15
  go_wp2
  go_ret
  exact ⟨rfl, rfl⟩
set_option maxRecDepth 100000 in
theorem feed_nil (v : Value) (w : World) : Calls Tryd.prog 14 #[.pointer none, v] w fun e w' => e = .returned (.slice none 0 0) ∧ w' = w := by
  go_enter Tryd.func14, Tryd.ntmps14
  go_wp2
  go_ret
  exact ⟨rfl, rfl⟩
set_option maxRecDepth 100000 in
theorem newUnit_any (w : World) : Calls Tryd.prog 11 #[] w fun e w' => e = .returned (.pointer (some ⟨w.heap.size, 0, none⟩)) ∧ w' = w.alloc (.cells #[.int .u16 0] 67) := by
  go_enter Tryd.func11, Tryd.ntmps11
  go_wp2
  go_ret
  exact ⟨rfl, rfl⟩
theorem end_any (B n₀ : Nat) (h : Int) (w : World) (hn : n₀ ≤ B) (hh : h = 0 ∨ (55296 ≤ h ∧ h < 56320)) (hb : Boxed w B 67 (.int .u16 h)) :
    Calls Tryd.prog 15 #[.pointer (some ⟨B, 0, none⟩)] w fun e w' => ∃ v, e = .returned v ∧ Rds .i32 w' v (fuH h []) ∧ Boxed w' B 67 (.int .u16 0) ∧ Kb B n₀ w w' := by
  rcases hh with rfl | hh
  · refine (end_zero B w hb.cell).mono ?_
    rintro e w' ⟨rfl, rfl⟩
    exact ⟨_, rfl, by rw [fuH_zero]; exact rds_nil _ _ _ _, hb, Kb.refl _ _ _⟩
  · refine (end_held B h w hh.1 hb.cell hb.frozen).mono ?_
    rintro e w' ⟨rfl, rfl⟩
    have hs : (w.setCell ⟨B, 0, none⟩ (.int .u16 0)).heap.size = w.heap.size := by simp
    have hl := hb.lt
    refine ⟨_, rfl, ?_, (hb.set _).alloc _, ((Kb.refl B n₀ w).setCell (p := ⟨B, 0, none⟩) hn _).alloc (by rw [hs]; omega) _⟩
    rw [fuH_held _ _ hh.1, fu_end _ hh.1 hh.2, ← hs]
    refine ⟨_, 1, rfl, fun _ => ⟨_, 0, rfl, fun j hj => ?_⟩⟩
    have := World.alloc_heap_new (w.setCell ⟨B, 0, none⟩ (.int .u16 0)) (.cells #[.int .i32 65533] 21)
    simp only [List.length_cons, List.length_nil] at hj
    obtain rfl : j = 0 := by omega
    simp only [World.cell?, this]
    rfl
end Go.Proofs.YtabofadjnbpjkacDoor
