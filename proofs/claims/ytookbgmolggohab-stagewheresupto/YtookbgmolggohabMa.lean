/-
  The law StageMemory, walked. Conditions: the rows' numbers fit; the list takes no more bytes than there are.
-/
import Derived.Test.YtookbgmolggohabLz
import Derived.Test.YtookbgmolggohabSt
namespace Go.Proofs.Ytookbgmolggohab
open Go.RowKit
theorem TabFrom.below {w w' : World} {b T : Nat} {F : Int → Int} (h : TabFrom w b T F) (hb : Below w.heap.size w w') : TabFrom w' b T F := fun w2 hs => h w2 fun g hg hl => (hs g hg (Nat.lt_of_lt_of_le hl hb.size)).trans (hb.block g hl)
/-- A block of so many cells of a type, which may be written. -/
def Blk (w : World) (g sz t : Nat) : Prop := ∃ cur : Array Value, w.heap[g]? = some (.cells cur t (0, 0)) ∧ sz ≤ cur.size
theorem Blk.set {w : World} {g sz t : Nat} (h : Blk w g sz t) (o : Nat) (v : Value) : Blk (w.setCell ⟨g, o, none⟩ v) g sz t := by
  obtain ⟨cur, h1, h2⟩ := h
  exact ⟨_, set_at v h1, by simpa using h2⟩
theorem Blk.cell {w : World} {g sz t : Nat} (h : Blk w g sz t) (j : Nat) (hj : j < sz) : ∃ u, w.cell? ⟨g, j, none⟩ = some u ∧ w.frozen? ⟨g, j, none⟩ = false := by
  obtain ⟨cur, h1, h2⟩ := h
  exact ⟨cur[j]'(by omega), by rw [cell_of_row w g j cur t (0, 0) h1]; exact Array.getElem?_eq_getElem _, by simp [World.frozen?, h1]⟩
theorem Blk.below {w w' : World} {g sz t : Nat} (h : Blk w g sz t) (hb : Below w.heap.size w w') : Blk w' g sz t := by
  obtain ⟨cur, h1, h2⟩ := h
  exact ⟨cur, (hb.block g (Array.getElem?_eq_some_iff.1 h1).1).trans h1, h2⟩
theorem owns_blk {w : World} {b e s n c : Nat} {g : Nat} {xs : List Value} (h : w.ownsRow b e s (.slice (some ⟨g, 0, none⟩) n c) n xs) : Blk w g (n * s) e ∧ b ≤ g := by
  obtain ⟨h1, ⟨h2, _⟩ | ⟨g', cap', cur, h2, h3, h4, h5, h6, h7, h8⟩⟩ := h
  · cases h2
  · cases h2
    exact ⟨⟨cur, h4, by rw [h7]; exact Nat.mul_le_mul_right _ h5⟩, h3⟩
theorem owns_mono {w : World} {b b' e s n : Nat} {v : Value} {xs : List Value} (h : w.ownsRow b e s v n xs) (hb : b' ≤ b) : w.ownsRow b' e s v n xs := by
  refine ⟨h.1, ?_⟩
  rcases h.2 with h2 | ⟨g, cap, cur, h2, h3, h4⟩
  · exact .inl h2
  · exact .inr ⟨g, cap, cur, h2, Nat.le_trans hb h3, h4⟩
theorem owns_kept {w w' : World} {b e s n : Nat} {v : Value} {xs : List Value} {row : Option Nat} (h : w.ownsRow b e s v n xs) (hg : w.grownBy w' row) (hn : ∀ g, v.ownBlock = some g → row ≠ some g) : w'.ownsRow b e s v n xs := owns_same h fun k hk => hg.block k (by obtain ⟨_, cur, h⟩ := own_in h hk; exact (Array.getElem?_eq_some_iff.1 h).1) (hn k hk).symm
theorem owns_apart {w : World} {b b' e e' s s' n n' : Nat} {v v' : Value} {xs xs' : List Value} (h : w.ownsRow b e s v n xs) (h' : w.ownsRow b' e' s' v' n' xs') (hne : e ≠ e') : ∀ g, v.ownBlock = some g → v'.ownBlock ≠ some g := fun g hg hg' => by
  obtain ⟨_, c1, h1⟩ := own_in h hg
  obtain ⟨_, c2, h2⟩ := own_in h' hg'
  exact ne_tag h1 h2 hne rfl
/-- The third number of each of the first k is -1. -/
def minus (xs : List Value) (k : Nat) : Prop := ∀ j, j < k → xs[j * 3 + 2]? = some (.int .i64 (-1))
theorem minus_set {xs : List Value} {k n : Nat} (h : minus xs k) (hl : xs.length = n * 3) (hk : k < n) : minus (xs.set (k * 3 + 2) (.int .i64 (-1))) (k + 1) := fun j hj => by
  by_cases hjk : j = k
  · subst hjk
    rw [List.getElem?_set_self (by omega)]
  · rw [List.getElem?_set_ne (by omega)]
    exact h j (by omega)
theorem minus_app {xs ys : List Value} {k : Nat} (h : minus xs k) : minus (xs ++ ys) k := fun j hj => by
  have := h j hj
  rw [List.getElem?_append_left (List.getElem?_eq_some_iff.1 this).1]
  exact this
set_option maxRecDepth 100000 in
set_option maxHeartbeats 1000000 in
theorem memory_bad (L : List Rw) (v : Value) (n : Int) (w : World) (hr : Rd3 .i32 w v L) (hf : fit3 L) (hl : L.length ≤ 8796093022208) (h : (chk L).2 ≠ 0) : Calls Try.prog 3 #[v, .int .i64 n] w fun e w' => e = .returned (.bool true) ∧ Below w.heap.size w w' := by
  have HR : Hid (Rd3 .i32 w v L) := hr
  have hce : (chk L).2 = 0 ∨ (chk L).2 = 80 ∨ (chk L).2 = 81 := by
    unfold chk
    split
    · exact .inr (.inl rfl)
    · exact chkF_err L 0 0
  have her : (chk L).2 = 80 ∨ (chk L).2 = 81 := by omega
  have K3 : Hid (∀ w1 v1, Rd3 .i64 w1 v1 L → Calls Try.prog 10 #[v1] w1 fun e w' => e = .returned (.tuple #[.int .i64 ((chk L).1 : Nat), .int .i64 (chk L).2]) ∧ Below w1.heap.size w1 w') := fun w1 v1 h1 => check_any L v1 w1 h1 hf
  have K1 : Hid (∀ vc wc, Rd3 .i32 wc vc L → Calls Try.prog 9 #[vc] wc fun e w' => e = .returned (.tuple #[.pointer none, .int .i64 ((chk L).1 : Nat), .int .i64 (chk L).2]) ∧ Below wc.heap.size wc w') := fun vc wc h1 => build_bad L vc wc h1 hf h
  have HF : Hid (fit3 L) := hf
  generalize chk L = cx at *
  obtain ⟨pl, er⟩ := cx
  simp only at K1 K3 her
  clear hr h hce hf
  go_enter Try.func3, Try.ntmps3
  go_wp2_with (go_at_call 8; refine (awake_any _).mono ?_)
  intro e wa hq
  first | (obtain ⟨rfl, ba⟩ : _ ∧ _ := hq) | (subst hq; intro ba)
  replace ba : Hid (Below w.heap.size w wa) := ba
  obtain ⟨vc, wc, hap, hoc, hbc⟩ := run_copy wa L v 22 (HR.out.below ba.out) hl
  have hap' : Hid _ := hap
  have HC : Hid (Rd3 .i32 wc vc L) := Rd3.of_owns hoc
  have HB : Hid (Below w.heap.size w wc) := ba.out.trans (hbc.mono ba.out.size)
  clear hap hoc hbc ba
  go_wp2_with (first | (at_builtin; refine wpList_append_run _ rfl _ _ 22 rfl _ _ _ _ rfl rfl hap'.out ?_) | (go_at_call 9; refine (K1.out _ _ HC.out).mono ?_))
  intro e w1 hq
  first | (obtain ⟨rfl, b1⟩ : _ ∧ _ := hq) | (subst hq; intro b1)
  have B1 : Hid (Below w.heap.size w w1) := HB.out.trans (b1.mono HB.out.size)
  clear b1 K1
  go_wp2_with (go_at_call 11; refine (plain_any L v _ (HR.out.below B1.out) HF.out hl).mono ?_)
  first | rintro e w2 v2 rfl O2 b2 | rintro e w2 ⟨v2, rfl, O2, b2⟩
  have R2 : Hid (Rd3 .i64 w2 v2 L) := Rd3.of_owns O2
  have B2 : Hid (Below w.heap.size w w2) := B1.out.trans (b2.mono B1.out.size)
  clear b2 O2 B1
  go_wp2_with (go_at_call 10; refine (K3.out _ _ R2.out).mono ?_)
  intro e w3 hq
  first | (obtain ⟨rfl, b3⟩ : _ ∧ _ := hq) | (subst hq; intro b3)
  have B3 : Hid (Below w.heap.size w w3) := B2.out.trans (b3.mono B2.out.size)
  clear b3 K3 R2 B2
  rcases her with rfl | rfl
  · go_wp2
    go_ret
    exact ⟨rfl, B3.out⟩
  · go_wp2
    go_ret
    exact ⟨rfl, B3.out⟩
end Go.Proofs.Ytookbgmolggohab
