/-
  The words' iterator as a sequence that may stop, and what the words say.
-/
import Derived.Test.YtcjlplaepnpopaaDoorFf
import Derived.Maps.OwnIn
import Derived.WalkSpells
import Derived.KernelRfl
namespace Go.Proofs.YtcjlplaepnpopaaDoor
open Go.RowKit
open Go.Lib Go.Shelf
attribute [local go_sem] Oper.semAt_some
theorem fields_in (n : Nat) (s : ByteArray) (w : World) : CallsIn Fence.wide n Tryd.prog 22 #[.string s, .func (.func 23) #[] #[]] w fun e w' => e = .returned (.func (.func 39) #[] #[.pointer (some ⟨w.heap.size, 0, none⟩), .pointer (some ⟨w.heap.size + 1, 0, none⟩)]) ∧ w' = (w.alloc (.cells #[.string s] 9)).alloc (.cells #[.func (.func 23) #[] #[]] 67) := by
  refine callsIn_of_wp Tryd.func22 rfl trivial ?_ rfl
  simp only [Tryd.ntmps22, List.size_toArray, List.length_cons, List.length_nil, Nat.reduceAdd, Nat.reduceSub, Array.replicate_succ, Array.replicate_zero, List.push_toArray, List.append_toArray, List.nil_append, List.cons_append]
  gi_wp2
  go_ret
  exact ⟨rfl, rfl⟩
/-- A word of a text: not empty, and no longer than it. -/
abbrev Wd (s : ByteArray) := {x : ByteArray // 0 < x.size ∧ x.size ≤ s.size}
theorem fields_stops (n Bs Bf n₀ : Nat) (s : ByteArray) (hs : s.size < 4294967281) (w : World) (hBs : Boxed w Bs 9 (.string s)) (hBf : Boxed w Bf 67 (.func (.func 23) #[] #[])) (hn0 : 3 ≤ n₀) (hn1 : n₀ ≤ w.heap.size) (hT : Utf8Tabs 1 2 w) :
    SeqStopsK Fence.wide n Tryd.prog 39 #[.pointer (some ⟨Bs, 0, none⟩), .pointer (some ⟨Bf, 0, none⟩)] (fun x : Wd s => #[Value.string x.1]) (Kq n₀ Bs Bf) (fun ys => ys.map (·.1) = wrdL s) (fun pre => pre.map (·.1) <+: wrdL s) (wrdL s).length w := fun l J Jx W hW hJ _ hY h0 => by
  have hT2 : Utf8Tabs 1 2 W := tabs_below2 hT hn0 (hW.mono hn1)
  refine (ff_in n l Bs Bf n₀ s hs (fun ys W => ∃ p : List (Wd s), p.map (·.1) = ys ∧ J p W) (fun ys W => ∃ p : List (Wd s), p.map (·.1) = ys ∧ Jx p W) W
    (fun ys W1 W2 h g => by obtain ⟨p, hp, h⟩ := h; exact ⟨p, hp, hJ p W1 W2 none h g (fun r e => by cases e)⟩) ?_ ((hW.block Bs hBs.lt).trans hBs) ((hW.block Bf hBf.lt).trans hBf) hn0 (Nat.le_trans hn1 hW.size) hT2 ⟨[], rfl, h0⟩).mono ?_
  · rintro pre x W1 ⟨p, rfl, hp⟩ hl hx1 hx2
    refine (hY p ⟨x, hx1, hx2⟩ W1 hp (by simpa using hl)).mono ?_
    rintro e W2 (⟨rfl, h1, h2⟩ | ⟨rfl, h1⟩)
    · exact .inl ⟨rfl, ⟨p ++ [⟨x, hx1, hx2⟩], by simp, h1⟩, h2⟩
    · exact .inr ⟨rfl, ⟨p ++ [⟨x, hx1, hx2⟩], by simp, h1⟩⟩
  · rintro e W2 ⟨he, (⟨ys, rfl, p, hp, h1⟩ | ⟨pre, hpre, p, hp, h1⟩)⟩
    · exact ⟨he, .inl ⟨p, hp, h1⟩⟩
    · subst hp
      exact ⟨he, .inr ⟨p, hpre, h1⟩⟩
theorem sq_pre : ∀ (A B : List ByteArray) (o : List Int) (k : Nat), sqF A o = .inr k → sqF (A ++ B) o = .inr k
  | [], _, _, _, h => by cases h
  | x :: A, B, o, k, h => by
    rw [sqF] at h
    rw [List.cons_append, sqF]
    by_cases c : x.size = 0
    · rw [if_pos c] at h ⊢; exact sq_pre A B o k h
    · rw [if_neg c] at h ⊢
      cases hp : ptN x with
      | none => rw [hp] at h; exact h
      | some p => rw [hp] at h; exact sq_pre A B _ k h
theorem sq_snoc : ∀ (A : List ByteArray) (x : ByteArray) (o p : List Int), sqF A o = .inl p → sqF (A ++ [x]) o = sqF [x] p
  | [], _, _, _, h => by cases h; rfl
  | y :: A, x, o, p, h => by
    rw [sqF] at h
    rw [List.cons_append, sqF]
    by_cases c : y.size = 0
    · rw [if_pos c] at h ⊢; exact sq_snoc A x o p h
    · rw [if_neg c] at h ⊢
      cases hp : ptN y with
      | none => rw [hp] at h; cases h
      | some q => rw [hp] at h; exact sq_snoc A x _ p h
theorem sq_len : ∀ (A : List ByteArray) (o p : List Int), sqF A o = .inl p → p.length ≤ o.length + A.length
  | [], _, _, h => by cases h; simp
  | y :: A, o, p, h => by
    rw [sqF] at h
    by_cases c : y.size = 0
    · rw [if_pos c] at h
      have := sq_len A o p h
      simp only [List.length_cons]; omega
    · rw [if_neg c] at h
      cases hp : ptN y with
      | none => rw [hp] at h; cases h
      | some q =>
        rw [hp] at h
        have := sq_len A _ p h
        simp only [List.length_cons, List.length_append, List.length_nil] at this ⊢; omega
/-- The code points that these words say. -/
def outL {s : ByteArray} (p : List (Wd s)) : List Int := match sqF (p.map (·.1)) [] with
  | .inl o => o
  | .inr _ => []
theorem info21r : (Tryd.prog.info? 21).map (fun i => (i.zero, i.size, i.bytes)) = some (some (.int .i32 0), 1, 4) := by kernel_rfl
/-- The six boxes of Sequence. -/
def Bx6 (N : Nat) (s : ByteArray) (W : World) : Prop := Boxed W N 33 (.slice none 0 0) ∧ Boxed W (N + 1) 3 (.int .i64 0) ∧ Boxed W (N + 2) 22 (.int .i64 0) ∧ Boxed W (N + 4) 9 (.string s) ∧ Boxed W (N + 5) 67 (.func (.func 23) #[] #[])
theorem bx6_own {β : Type} (N : Nat) (s : ByteArray) : Own (fun (_ : β) W => Bx6 N s W) := fun _ X Y row hs hg hr =>
  ⟨boxed_own (β := Unit) _ _ (fun _ => _) () X Y row hs.1 hg hr, boxed_own (β := Unit) _ _ (fun _ => _) () X Y row hs.2.1 hg hr, boxed_own (β := Unit) _ _ (fun _ => _) () X Y row hs.2.2.1 hg hr, boxed_own (β := Unit) _ _ (fun _ => _) () X Y row hs.2.2.2.1 hg hr, boxed_own (β := Unit) _ _ (fun _ => _) () X Y row hs.2.2.2.2 hg hr⟩
theorem Bx6.alloc {N : Nat} {s : ByteArray} {W : World} (h : Bx6 N s W) (o : Obj) : Bx6 N s (W.alloc o) := ⟨h.1.alloc o, h.2.1.alloc o, h.2.2.1.alloc o, h.2.2.2.1.alloc o, h.2.2.2.2.alloc o⟩
theorem six_new (w : World) (s : ByteArray) : ∃ W0, (((((w.alloc (.cells #[.slice none 0 0] 33)).alloc (.cells #[.int .i64 0] 3)).alloc (.cells #[.int .i64 0] 22)).alloc (.cells #[.slice none 0 0] 33)).alloc (.cells #[.string s] 9)).alloc (.cells #[.func (.func 23) #[] #[]] 67) = W0 ∧
    Bx6 w.heap.size s W0 ∧ Boxed W0 (w.heap.size + 3) 33 (.slice none 0 0) ∧ Below w.heap.size w W0 ∧ W0.heap.size = w.heap.size + 6 := by
  refine ⟨_, rfl, ?_, ?_, ?_, by simp⟩
  · have b0 := Boxed.new w 33 (.slice none 0 0)
    have b1 := Boxed.new (w.alloc (.cells #[.slice none 0 0] 33)) 3 (.int .i64 0)
    have b2 := Boxed.new ((w.alloc (.cells #[.slice none 0 0] 33)).alloc (.cells #[.int .i64 0] 3)) 22 (.int .i64 0)
    have b4 := Boxed.new ((((w.alloc (.cells #[.slice none 0 0] 33)).alloc (.cells #[.int .i64 0] 3)).alloc (.cells #[.int .i64 0] 22)).alloc (.cells #[.slice none 0 0] 33)) 9 (.string s)
    have b5 := Boxed.new (((((w.alloc (.cells #[.slice none 0 0] 33)).alloc (.cells #[.int .i64 0] 3)).alloc (.cells #[.int .i64 0] 22)).alloc (.cells #[.slice none 0 0] 33)).alloc (.cells #[.string s] 9)) 67 (.func (.func 23) #[] #[])
    simp only [World.size_alloc] at b1 b2 b4 b5
    exact ⟨(((((b0.alloc _).alloc _).alloc _).alloc _).alloc _), ((((b1.alloc _).alloc _).alloc _).alloc _), (((b2.alloc _).alloc _).alloc _), b4.alloc _, b5⟩
  · have b3 := Boxed.new (((w.alloc (.cells #[.slice none 0 0] 33)).alloc (.cells #[.int .i64 0] 3)).alloc (.cells #[.int .i64 0] 22)) 33 (.slice none 0 0)
    simp only [World.size_alloc] at b3
    exact (b3.alloc _).alloc _
  · exact ((((((Below.refl _ w).alloc (Nat.le_refl _) _).alloc (by simp) _).alloc (by simp; omega) _).alloc (by simp; omega) _).alloc (by simp; omega) _).alloc (by simp; omega) _
/-- How Sequence's memory stands where a word is none. -/
theorem bad_end {B N k : Nat} {s : ByteArray} {w W : World} (h : Bx6 N s W) (hB : Below N w W) :
    KeepsFrom B W (((W.setCell ⟨N, 0, none⟩ (.slice none 0 0)).setCell ⟨N + 1, 0, none⟩ (.int .i64 (k : Int))).setCell ⟨N + 2, 0, none⟩ (.int .i64 90)).drew ∧
    Boxed (((W.setCell ⟨N, 0, none⟩ (.slice none 0 0)).setCell ⟨N + 1, 0, none⟩ (.int .i64 (k : Int))).setCell ⟨N + 2, 0, none⟩ (.int .i64 90)).drew N 33 (.slice none 0 0) ∧
    Boxed (((W.setCell ⟨N, 0, none⟩ (.slice none 0 0)).setCell ⟨N + 1, 0, none⟩ (.int .i64 (k : Int))).setCell ⟨N + 2, 0, none⟩ (.int .i64 90)).drew (N + 1) 3 (.int .i64 (k : Int)) ∧
    Boxed (((W.setCell ⟨N, 0, none⟩ (.slice none 0 0)).setCell ⟨N + 1, 0, none⟩ (.int .i64 (k : Int))).setCell ⟨N + 2, 0, none⟩ (.int .i64 90)).drew (N + 2) 22 (.int .i64 90) ∧
    Below N w (((W.setCell ⟨N, 0, none⟩ (.slice none 0 0)).setCell ⟨N + 1, 0, none⟩ (.int .i64 (k : Int))).setCell ⟨N + 2, 0, none⟩ (.int .i64 90)).drew := by
  have k1 := ((KeepsOthers.setCell W ⟨N, 0, none⟩ (.slice none 0 0)).trans (KeepsOthers.setCell _ ⟨N + 1, 0, none⟩ (.int .i64 (k : Int)))).trans (KeepsOthers.setCell _ ⟨N + 2, 0, none⟩ (.int .i64 90))
  have b0 := ((h.1.set (.slice none 0 0)).other (B' := N + 1) (by omega) (.int .i64 (k : Int))).other (B' := N + 2) (by omega) (.int .i64 90)
  have b1 := ((h.2.1.other (B' := N) (by omega) (.slice none 0 0)).set (.int .i64 (k : Int))).other (B' := N + 2) (by omega) (.int .i64 90)
  have b2 := ((h.2.2.1.other (B' := N) (by omega) (.slice none 0 0)).other (B' := N + 1) (by omega) (.int .i64 (k : Int))).set (.int .i64 90)
  have hb := ((hB.setCell (p := ⟨N, 0, none⟩) (Nat.le_refl _) (.slice none 0 0)).setCell (p := ⟨N + 1, 0, none⟩) (by simp) (.int .i64 (k : Int))).setCell (p := ⟨N + 2, 0, none⟩) (by simp) (.int .i64 90)
  exact ⟨⟨(k1.from B).size, (k1.from B).same⟩, b0, b1, b2, ⟨hb.os, hb.tape, hb.output, hb.size, hb.block⟩⟩
/-- The boxes stand where the row of another has grown. -/
theorem Bx6.grew {N : Nat} {s : ByteArray} {W w1 : World} {v v' : Value} {k : Nat} {xs : List Value} {tmp : Obj} {b : Nat} (h : Bx6 N s W) (hrow : W.ownsRow b 21 1 v k xs) (hg : (W.alloc tmp).grownBy w1 v.ownBlock) : Bx6 N s (w1.setCell ⟨N + 3, 0, none⟩ v') :=
  ⟨((h.1.alloc _).kept hg (h.1.not_row (by decide) hrow)).other (by omega) _, ((h.2.1.alloc _).kept hg (h.2.1.not_row (by decide) hrow)).other (by omega) _, ((h.2.2.1.alloc _).kept hg (h.2.2.1.not_row (by decide) hrow)).other (by omega) _,
    ((h.2.2.2.1.alloc _).kept hg (h.2.2.2.1.not_row (by decide) hrow)).other (by omega) _, ((h.2.2.2.2.alloc _).kept hg (h.2.2.2.2.not_row (by decide) hrow)).other (by omega) _⟩
theorem out_is {s : ByteArray} {p : List (Wd s)} {o : List Int} (h : sqF (p.map (·.1)) [] = .inl o) : outL p = o := by unfold outL; rw [h]
/-- How it stands where every word is one. -/
theorem good_end {D k : Nat} {s : ByteArray} {w W : World} {v : Value} {os : List Int} (h : Bx6 w.heap.size s W) (hrow : W.ownsRow w.heap.size 21 1 v k (os.map fun z => Value.int .i32 z)) (hB : Below w.heap.size w W) (hD : w.heap.size + 6 ≤ D) (hK : W.heap[D]? = some (.deferred (some []))) :
    (((W.setCell ⟨w.heap.size, 0, none⟩ v).setCell ⟨w.heap.size + 1, 0, none⟩ (.int .i64 0)).setCell ⟨w.heap.size + 2, 0, none⟩ (.int .i64 0)).heap[D]? = some (.deferred (some [])) ∧
    ((((W.setCell ⟨w.heap.size, 0, none⟩ v).setCell ⟨w.heap.size + 1, 0, none⟩ (.int .i64 0)).setCell ⟨w.heap.size + 2, 0, none⟩ (.int .i64 0)).putObj D (.deferred none)).cell? ⟨w.heap.size, 0, none⟩ = some v ∧
    ((((W.setCell ⟨w.heap.size, 0, none⟩ v).setCell ⟨w.heap.size + 1, 0, none⟩ (.int .i64 0)).setCell ⟨w.heap.size + 2, 0, none⟩ (.int .i64 0)).putObj D (.deferred none)).cell? ⟨w.heap.size + 1, 0, none⟩ = some (.int .i64 0) ∧
    ((((W.setCell ⟨w.heap.size, 0, none⟩ v).setCell ⟨w.heap.size + 1, 0, none⟩ (.int .i64 0)).setCell ⟨w.heap.size + 2, 0, none⟩ (.int .i64 0)).putObj D (.deferred none)).cell? ⟨w.heap.size + 2, 0, none⟩ = some (.int .i64 0) ∧
    ((((W.setCell ⟨w.heap.size, 0, none⟩ v).setCell ⟨w.heap.size + 1, 0, none⟩ (.int .i64 0)).setCell ⟨w.heap.size + 2, 0, none⟩ (.int .i64 0)).putObj D (.deferred none)).ownsRow w.heap.size 21 1 v k (os.map fun z => Value.int .i32 z) ∧
    Below w.heap.size w ((((W.setCell ⟨w.heap.size, 0, none⟩ v).setCell ⟨w.heap.size + 1, 0, none⟩ (.int .i64 0)).setCell ⟨w.heap.size + 2, 0, none⟩ (.int .i64 0)).putObj D (.deferred none)) := by
  have b0 := ((h.1.set v).other (B' := w.heap.size + 1) (by omega) (.int .i64 0)).other (B' := w.heap.size + 2) (by omega) (.int .i64 0)
  have b1 := ((h.2.1.other (B' := w.heap.size) (by omega) v).set (.int .i64 0)).other (B' := w.heap.size + 2) (by omega) (.int .i64 0)
  have b2 := ((h.2.2.1.other (B' := w.heap.size) (by omega) v).other (B' := w.heap.size + 1) (by omega) (.int .i64 0)).set (.int .i64 0)
  have o1 := hrow.kept (grownBy_setCell' W w.heap.size v) (.inr (h.1.not_row (by decide) hrow).symm)
  have o2 := o1.kept (grownBy_setCell' _ (w.heap.size + 1) (.int .i64 0)) (.inr ((h.2.1.other (B' := w.heap.size) (by omega) v).not_row (by decide) o1).symm)
  have o3 := o2.kept (grownBy_setCell' _ (w.heap.size + 2) (.int .i64 0)) (.inr (((h.2.2.1.other (B' := w.heap.size) (by omega) v).other (B' := w.heap.size + 1) (by omega) (.int .i64 0)).not_row (by decide) o2).symm)
  have hb := ((hB.setCell (p := ⟨w.heap.size, 0, none⟩) (Nat.le_refl _) v).setCell (p := ⟨w.heap.size + 1, 0, none⟩) (by simp) (.int .i64 0)).setCell (p := ⟨w.heap.size + 2, 0, none⟩) (by simp) (.int .i64 0)
  have hD1 : ∀ (X : World) (j : Nat) (u : Value), j < D → (X.setCell ⟨j, 0, none⟩ u).heap[D]? = X.heap[D]? := fun X j u hj => Below.heap_setCell X ⟨j, 0, none⟩ u D (by simp; omega)
  have hKK : (((W.setCell ⟨w.heap.size, 0, none⟩ v).setCell ⟨w.heap.size + 1, 0, none⟩ (.int .i64 0)).setCell ⟨w.heap.size + 2, 0, none⟩ (.int .i64 0)).heap[D]? = some (.deferred (some [])) := by
    rw [hD1 _ _ _ (by omega), hD1 _ _ _ (by omega), hD1 _ _ _ (by omega), hK]
  generalize (((W.setCell ⟨w.heap.size, 0, none⟩ v).setCell ⟨w.heap.size + 1, 0, none⟩ (.int .i64 0)).setCell ⟨w.heap.size + 2, 0, none⟩ (.int .i64 0)) = X at *
  have hK2 : ∀ j, j < w.heap.size + 6 → (X.putObj D (.deferred none)).heap[j]? = X.heap[j]? := fun j hj => World.putObj_heap_other (by omega)
  exact ⟨hKK, Boxed.cell (t := 33) ((hK2 _ (by omega)).trans b0), Boxed.cell (t := 3) ((hK2 _ (by omega)).trans b1), Boxed.cell (t := 22) ((hK2 _ (by omega)).trans b2), ownsRow_putObj o3 _ hKK rfl, hb.trans (belowK_b (w := w) (Nat.le_refl _) X D _ (.deferred none) (by omega) hKK rfl rfl)⟩
end Go.Proofs.YtcjlplaepnpopaaDoor
