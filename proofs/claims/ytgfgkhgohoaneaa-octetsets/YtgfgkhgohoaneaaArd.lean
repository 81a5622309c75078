/-
  A slice of bytes that came in: it reads as a list of numbers; what Make, the document's Make, 'string(..)' and 'append([]byte{}, ..)' do with it. Conditions: the numbers are bytes; there are no more than 2^47 of them.
-/
import Derived.Test.YtgfgkhgohoaneaaRmk
import Derived.Test.YtgfgkhgohoaneaaMem
import Derived.OpenShut
import Derived.Laws.AppendOwnNone
namespace Go.Proofs.Ytgfgkhgohoaneaa
open Go.RowKit
/-- A slice that came in reads as these numbers. -/
def RdsA (w : World) (v : Value) (zs : List Int) : Prop :=
  (v = .slice none 0 0 ∧ zs = []) ∨ ∃ ad c, v = .slice (some ad) zs.length c ∧ ∀ j, j < zs.length → w.cell? (ad.add j) = some (.int .u8 (zs.getD j 0))
theorem RdsA.form {w : World} {v : Value} {zs : List Int} (h : RdsA w v zs) : ∃ ao c, v = .slice ao zs.length c := by
  obtain ⟨rfl, rfl⟩ | ⟨ad, c, rfl, h⟩ := h
  · exact ⟨_, _, rfl⟩
  · exact ⟨_, _, rfl⟩
theorem RdsA.below {w w' : World} {v : Value} {zs : List Int} (h : RdsA w v zs) (hb : Below w.heap.size w w') : RdsA w' v zs := by
  obtain h | ⟨ad, c, rfl, h⟩ := h
  · exact .inl h
  · refine .inr ⟨ad, c, rfl, fun j hj => ?_⟩
    have hl : (ad.add j).block < w.heap.size := World.block_lt_of_cell? _ _ (h j hj)
    exact (hb.cell hl).trans (h j hj)
theorem plus_noneA (p : Nat → Bool) (ao : Option Addr) (c : Nat) (w : World) : Calls Try.prog 34 #[.agg #[.int .u64 ((wd p) 0), .int .u64 ((wd p) 1), .int .u64 ((wd p) 2), .int .u64 ((wd p) 3)], .slice ao 0 c] w fun e w' => e = .returned (.agg #[.int .u64 ((wd p) 0), .int .u64 ((wd p) 1), .int .u64 ((wd p) 2), .int .u64 ((wd p) 3)]) ∧ Below w.heap.size w w' := by
  go_enter Try.func34, Try.ntmps34
  go_wp2_with fail
  refine wp_loop_rounds 1 ?_
  rw [rounds_succ]
  go_wp2
  refine bodyPost_ret (v := .agg #[.int .u64 ((wd p) 0), .int .u64 ((wd p) 1), .int .u64 ((wd p) 2), .int .u64 ((wd p) 3)]) (by simp [results, Try.results34, go_sem]) rfl ⟨rfl, ?_⟩
  exact ((Below.refl _ _).alloc (by simp) _).alloc (by simp) _
/-- The numbers as bytes. -/
def bsOf (zs : List Int) (i : Nat) : Nat := (zs.getD i 0).toNat % 256
def AreB (zs : List Int) : Prop := ∀ z ∈ zs, 0 ≤ z ∧ z < 256
theorem bsOf_is {zs : List Int} (h : AreB zs) (i : Nat) (hi : i < zs.length) : zs.getD i 0 = ((bsOf zs i : Nat) : Int) := by
  have hm := h (zs.getD i 0) (by simp [List.getD, List.getElem?_eq_getElem hi])
  unfold bsOf; omega
theorem byte_bs (zs : List Int) (i : Nat) (hi : i < zs.length) : byteAt (strOfNums zs) i = bsOf zs i := by
  unfold byteAt bsOf
  rw [strOfNums_data]
  simp [List.getD, List.getElem?_eq_getElem hi]
theorem RdsA.plus {w : World} {v : Value} {zs : List Int} (h : RdsA w v zs) (hl : zs.length ≤ 140737488355328) (hz : AreB zs) : PlusSays w v (fun p => plusTo p (bsOf zs) zs.length) := by
  obtain ⟨rfl, rfl⟩ | ⟨ad, c, rfl, h⟩ := h
  · intro p w' hb
    show Calls _ _ _ _ fun e w'' => e = .returned (.agg #[.int .u64 ((wd (plusTo p (bsOf []) 0)) 0), .int .u64 ((wd (plusTo p (bsOf []) 0)) 1), .int .u64 ((wd (plusTo p (bsOf []) 0)) 2), .int .u64 ((wd (plusTo p (bsOf []) 0)) 3)]) ∧ _
    rw [plusTo_zero]
    exact plusSays_none w 0 p w' hb
  · by_cases hp : 0 < zs.length
    · obtain ⟨b, off, rfl, hc⟩ := ints_at h hp
      exact plusSays_some (bsOf zs) b off zs.length c w hl (World.block_lt_of_cell? _ _ (hc 0 hp)) (fun i => Nat.mod_lt _ (by omega)) fun i hi => by rw [hc i hi, bsOf_is hz i hi]
    · have e : zs.length = 0 := by omega
      rw [e]
      intro p w' hb
      show Calls _ _ _ _ fun e w'' => e = .returned (.agg #[.int .u64 ((wd (plusTo p (bsOf zs) 0)) 0), .int .u64 ((wd (plusTo p (bsOf zs) 0)) 1), .int .u64 ((wd (plusTo p (bsOf zs) 0)) 2), .int .u64 ((wd (plusTo p (bsOf zs) 0)) 3)]) ∧ _
      rw [plusTo_zero]
      exact plus_noneA p _ _ w'
theorem conv_none (w : World) (p : Option Addr) (c : Nat) : (convert 27 9 (.slice p 0 c)).run Try.prog w = .ok (.string (strOfNums [])) w := by
  rw [run_convert_bytes_string w 27 9 5 _ 0 c Try.underlying27 Try.underlying5 Try.underlying9]
  cases p <;> simp [Conv.bytesToString, loadCells]
  all_goals rfl
theorem RdsA.conv {w : World} {v : Value} {zs : List Int} (h : RdsA w v zs) : (convert 27 9 v).run Try.prog w = .ok (.string (strOfNums zs)) w := by
  obtain ⟨rfl, rfl⟩ | ⟨ad, c, rfl, h⟩ := h
  · exact conv_none _ _ _
  · by_cases hp : 0 < zs.length
    · obtain ⟨b, off, rfl, hc⟩ := ints_at h hp
      exact run_convert_bytes_arg w 27 5 Try.underlying27 Try.underlying5 b off zs.length c zs rfl hc 9 Try.underlying9
    · have e : zs = [] := List.eq_nil_of_length_eq_zero (by omega)
      subst e
      exact conv_none _ _ _
/-- The set of the bytes from one to another and of a list. -/
def setOf (a b : Nat) (zs : List Int) : Nat → Bool := withTo (fromP (fun _ => false) a (b + 1)) (strOfNums zs) (strOfNums zs).size
theorem setOf_plus (a b : Nat) (zs : List Int) : plusTo (fromTo a (b + 1)) (bsOf zs) zs.length = setOf a b zs := by
  funext j
  unfold setOf withTo plusTo fromP fromTo
  rw [strOfNums_size, Bool.false_or]
  congr 1
  have : ∀ l : List Nat, (∀ i ∈ l, i < zs.length) → (l.any fun i => j == bsOf zs i) = l.any fun i => j == byteAt (strOfNums zs) i := by
    intro l
    induction l with
    | nil => intro _; rfl
    | cons x l ih =>
      intro h
      rw [List.any_cons, List.any_cons, ih (fun i hi => h i (List.mem_cons_of_mem _ hi)), byte_bs zs x (h x (List.mem_cons_self ..))]
  exact this _ (fun i hi => by simpa using hi)
theorem mk17 (a b : Nat) (v : Value) (zs : List Int) (w : World) (ha : a < 256) (hb : b < 256) (h : RdsA w v zs) (hl : zs.length ≤ 140737488355328) (hz : AreB zs) :
    Calls Try.prog 17 #[.int .u8 a, .int .u8 b, v] w fun e w' => e = .returned (.agg (aggW (setOf a b zs))) ∧ Below w.heap.size w w' := by
  have := make_any a b v _ w ha hb (h.plus hl hz)
  rw [setOf_plus] at this
  exact this
theorem mk18 (a b : Nat) (v : Value) (zs : List Int) (w : World) (ha : a < 256) (hb : b < 256) (h : ∀ w', Below w.heap.size w w' → (convert 27 9 v).run Try.prog w' = .ok (.string (strOfNums zs)) w') (hl : zs.length ≤ 140737488355328) :
    Calls Try.prog 18 #[.int .u8 a, .int .u8 b, v] w fun e w' => e = .returned (.agg (rowOf .u8 256 (b01 (setOf a b zs)))) ∧ Below w.heap.size w w' :=
  rmake_any a b v (strOfNums zs) w ha hb (by rw [strOfNums_size]; unfold maxLen; omega) h
theorem RdsA.convs {w : World} {v : Value} {zs : List Int} (h : RdsA w v zs) (w' : World) (hb : Below w.heap.size w w') : (convert 27 9 v).run Try.prog w' = .ok (.string (strOfNums zs)) w' := (h.below hb).conv
/-- 'append([]byte{}, ..)' of a slice that came in. -/
theorem wpList_append_rds {w : World} {ops : Array Oper} {rest : List Oper} {o : Oper} {a : Act} {Q : Exit → Act → World → Prop} (hgd : o.guard = none) (s x : Operand)
    (ho : o.op = .call { callee := .builtin .append, args := #[s, x], argTypes := #[27, 27] }) (base : Nat)
    (v0 v : Value) (zs : List Int) (hs : a.eval s = v0) (hown : w.ownsRow base 5 1 v0 0 []) (hx : a.eval x = v) (hr : RdsA w v zs) (hl : zs.length ≤ 140737488355328) (hb : base ≤ w.heap.size)
    (K : ∀ v' w', w'.ownsRow base 5 1 v' zs.length (zs.map fun z => Value.int .u8 z) → Below base w w' → wpList Try.prog ops Q rest (a.put o.dst v') w') : wpList Try.prog ops Q (o :: rest) a w := by
  obtain ⟨i, hi, hz, h1, h2⟩ := info_parts info5
  obtain ⟨rfl, rfl⟩ | ⟨ad, c, rfl, h⟩ := hr
  · exact wpList_append_own_none hgd s x 27 ho base 5 i 1 Try.underlying27 hi v0 0 [] hs hown hx (K _ _ hown (Below.refl _ _))
  · refine wpList_append_own _ hgd s x 27 ho base 5 i (.int .u8 0) 1 1 Try.underlying27 hi hz h1 h2 rfl (by decide) v0 0 [] hs hown ad zs.length c (zs.map fun z => Value.int .u8 z) hx (by simp) (fun j u hj => ?_) (by simp [Value.oneCell']) (by unfold maxLen; omega) (by omega) hb (fun v' w' ho' hg' _ => K v' w' ?_ ?_)
    · have hj' : j < zs.length := by have := (List.getElem?_eq_some_iff.1 hj).1; simpa using this
      rw [h j hj']
      rw [← hj]
      simp [List.getD, List.getElem?_eq_getElem hj']
    · rw [Nat.zero_add] at ho'
      exact ho'
    · exact (Below.refl base w).grown hg' hb (fun j hj => (hown.lt j hj).1)
theorem own_empty (w : World) (e : TypeId) : (w.alloc (.cells #[] e)).ownsRow w.heap.size e 1 (.slice (some ⟨w.heap.size, 0, none⟩) 0 0) 0 [] := ⟨rfl, .inr ⟨_, _, _, rfl, Nat.le_refl _, heap_alloc_last _ _, by simp, by decide, rfl, rfl⟩⟩
theorem owns_below {w w' : World} {B e n : Nat} {v : Value} {xs : List Value} (h : w.ownsRow B e 1 v n xs) (hb : Below w.heap.size w w') : w'.ownsRow B e 1 v n xs := by
  obtain ⟨hl, h | ⟨g, cap, cur, rfl, h1, hg, h3, h4, h5, h6⟩⟩ := h
  · exact ⟨hl, .inl h⟩
  · exact ⟨hl, .inr ⟨g, cap, cur, rfl, h1, below_at hg hb, h3, h4, h5, h6⟩⟩
theorem owns_conv {w : World} {B : Nat} {v : Value} {zs : List Int} (h : w.ownsRow B 5 1 v zs.length (zs.map fun z => Value.int .u8 z)) (w' : World) (hb : Below w.heap.size w w') : (convert 27 9 v).run Try.prog w' = .ok (.string (strOfNums zs)) w' :=
  string_ownL (P := Try.prog) 27 5 9 (owns_below h hb) Try.underlying27 Try.underlying5 Try.underlying9
end Go.Proofs.Ytgfgkhgohoaneaa
