/-
  What All hands back, and that it stops where it should. Conditions: the numbers fit; the list takes no more bytes than there are.
-/
import Derived.Test.YtddoanmhikldiabIt
import Derived.Test.YtddoanmhikldiabGv
import Derived.Test.YtddoanmhikldiabCr
namespace Go.Proofs.Ytddoanmhikldiab
open Go.RowKit Go.Shelf
theorem it_stops (n : Nat) (hn : 1 ≤ n) (own : Nat → Prop) (A : List Sn) (Bs : Nat) (sv : Value) (w : World) (hown : ∀ k, own k → k < w.heap.size) (hc : w.cell? ⟨Bs, 0, none⟩ = some sv) (hr : RdS w sv A) (ho : ∀ k, sv.ownBlock = some k → ¬ own k) (sA : isS 0 A = true) (lA : A.length ≤ 65536) :
    SeqStopsK Fence.wide n Try.prog 20 #[.pointer (some ⟨Bs, 0, none⟩)] (fun x : Int => #[Value.int .i32 x]) (KC own) (fun ys => ys = upto A (cntL A).toNat) (fun pre => pre <+: upto A (cntL A).toNat) (cntL A).toNat w := fun l J Jx W hW hJ _ hY h0 => by
  have hr' := hr.below hW
  have hc' := (hW.cell (p := ⟨Bs, 0, none⟩) (World.block_lt_of_cell? w _ hc)).trans hc
  obtain ⟨a, c, rfl, _, _⟩ := hr
  exact it_in n hn own A l Bs a c J Jx hY W (fun k h => Nat.lt_of_lt_of_le (hown k h) hW.size) hJ hc' hr' ho sA lA h0
theorem own_in2 {w : World} {b e s n : Nat} {v : Value} {xs : List Value} {k : Nat} (h : w.ownsRow b e s v n xs) (hk : v.ownBlock = some k) : b ≤ k ∧ k < w.heap.size := by
  rcases h.2 with ⟨rfl, _⟩ | ⟨g, cap, cur, rfl, hb, hg, _⟩
  · cases hk
  · obtain rfl : g = k := by simpa [Value.ownBlock] using hk
    exact ⟨hb, (Array.getElem?_eq_some_iff.1 hg).1⟩
theorem owns_same2 {w w' : World} {b e s n : Nat} {v : Value} {xs : List Value} (h : w.ownsRow b e s v n xs) (hs : ∀ k, v.ownBlock = some k → w'.heap[k]? = w.heap[k]?) : w'.ownsRow b e s v n xs := by
  refine ⟨h.1, ?_⟩
  rcases h.2 with hn | ⟨g, cap, cur, rfl, hb, hg, hr⟩
  · exact .inl hn
  · exact .inr ⟨g, cap, cur, rfl, hb, (hs g rfl).trans hg, hr⟩
def setOf (A : List Sn) : List Sn := if isB A = true then A else []
theorem setOf_set (A : List Sn) : isS 0 (setOf A) = true ∧ (setOf A).length ≤ 65536 := by
  unfold setOf
  split
  · rename_i h; exact ⟨(isB_iff.1 h).2, (isB_iff.1 h).1⟩
  · exact ⟨rfl, by simp⟩
set_option maxRecDepth 100000 in
set_option maxHeartbeats 1000000 in
theorem all_any (A : List Sn) (va : Value) (w : World) (ra : RdS w va A) (fa : fitS A) (la : A.length ≤ 17592186044416) : Calls Try.prog 8 #[va] w fun e w' => ∃ v', e = .returned (.func (.func 20) #[] #[.pointer (some ⟨w.heap.size, 0, none⟩)]) ∧ w'.cell? ⟨w.heap.size, 0, none⟩ = some v' ∧ RdS w' v' (setOf A) ∧ (∀ k, v'.ownBlock = some k → w.heap.size < k ∧ k < w'.heap.size) ∧ Below w.heap.size w w' := by
  have RA : Hid (RdS w va A) := ra
  have FA : Hid (fitS A) := fa
  obtain ⟨pa, ca, rfl, _, _⟩ := ra
  clear fa
  go_enter Try.func8, Try.ntmps8
  go_wp2_with fail
  have B0 : Hid (Below w.heap.size w (w.alloc (.cells #[.slice none 0 0] 22))) := (Below.refl _ w).alloc (Nat.le_refl _) _
  have c0 : (w.alloc (.cells #[.slice none 0 0] 22)).cell? ⟨w.heap.size, 0, none⟩ = some (.slice none 0 0) := (cell_of_row _ w.heap.size 0 _ 22 (0, 0) (heap_alloc_new w _)).trans rfl
  refine (is_any A _ _ (RA.out.below B0.out) FA.out (by omega)).mono ?_
  rintro e w1 ⟨rfl, b1⟩
  have B1 : Hid (Below w.heap.size w w1) := B0.out.trans (b1.mono B0.out.size)
  have c1 : w1.heap[w.heap.size]? = some (.cells #[.slice none 0 0] 22 (0, 0)) := (b1.block _ (by simp)).trans (heap_alloc_new w _)
  have cc : w1.cell? ⟨w.heap.size, 0, none⟩ = some (.slice none 0 0) := (cell_of_row w1 w.heap.size 0 _ 22 (0, 0) c1).trans rfl
  cases sA : isB A
  · have hs : setOf A = [] := by simp [setOf, sA]
    go_wp2
    go_ret
    exact ⟨_, rfl, cc, by rw [hs]; exact ⟨none, 0, rfl, Nat.le_refl _, fun h => by simp at h⟩, (fun k h => by cases h), B1.out⟩
  · have hs : setOf A = A := by simp [setOf, sA]
    go_wp2_with fail
    refine (clone_any A _ w1 (RA.out.below B1.out) la).mono ?_
    rintro e w2 ⟨v', rfl, o2, b2⟩
    have c2 : w2.heap[w.heap.size]? = some (.cells #[.slice none 0 0] 22 (0, 0)) := below_at c1 b2
    have B2 : Hid (Below w.heap.size w w2) := B1.out.trans (b2.mono B1.out.size)
    have O2 : Hid (w2.ownsRow w1.heap.size 41 2 v' A.length (celS A)) := o2
    have hlt : w.heap.size < w1.heap.size := (Array.getElem?_eq_some_iff.1 c1).1
    have cc2 : w2.cell? ⟨w.heap.size, 0, none⟩ = some (.slice none 0 0) := (cell_of_row w2 w.heap.size 0 _ 22 (0, 0) c2).trans rfl
    have ff2 : w2.frozen? ⟨w.heap.size, 0, none⟩ = false := by simp [World.frozen?, c2]
    obtain ⟨p2, k2, rfl, _, _⟩ := owns_slice o2
    clear o2 b1 b2 cc c0 c1
    go_wp2
    go_ret
    refine ⟨.slice p2 A.length k2, rfl, ?_, ?_, ?_, ?_⟩
    · exact (cell_of_row _ w.heap.size 0 _ 22 (0, 0) (set_at _ c2)).trans rfl
    · rw [hs]
      exact RdS.of_owns (owns_same2 O2.out (fun k hk => heap_setCell_other _ _ _ _ (by have := (own_in2 O2.out hk).1; simp; omega)))
    · exact fun k hk => by have := own_in2 O2.out hk; simp; omega
    · exact B2.out.setCell (p := ⟨w.heap.size, 0, none⟩) (Nat.le_refl _) _
end Go.Proofs.Ytddoanmhikldiab
