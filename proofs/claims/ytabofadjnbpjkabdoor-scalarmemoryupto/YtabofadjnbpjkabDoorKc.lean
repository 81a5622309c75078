/-
  What the law ScalarMemory leans on: End with memory of its own, a row that is written on, four rows in blocks of their own.
-/
import Derived.Test.YtabofadjnbpjkabDoorKa
import Derived.Test.YtabofadjnbpjkabDoorZm
import Derived.Test.YtabofadjnbpjkabDoorFf
import Derived.Test.YtabofadjnbpjkabDoorPcs
import Derived.Test.YtabofadjnbpjkabDoorCu
import Derived.OneCell
namespace Go.Proofs.YtabofadjnbpjkabDoor
open Go.RowKit Go.Lib
set_option maxRecDepth 100000 in
theorem end_own (b : Nat) (h : ByteArray) (w : World) (d : DecAt w b h) : Calls Tryd.prog 19 #[.pointer (some ⟨b, 0, none⟩)] w fun e w' => ∃ v n X, e = .returned v ∧ n ≤ 1 ∧ w'.ownsRow w.heap.size 21 1 v n X ∧ DecAt w' b ⟨#[]⟩ ∧ w.grownBy w' (some b) := by
  have hc := d.cell
  have hf := d.frozen
  by_cases h0 : h.size = 0
  · have e : h = ⟨#[]⟩ := text_ext _ _ h0 (fun j hj => by omega)
    subst e
    have D : Hid (DecAt w b ⟨#[]⟩) := d
    clear d
    go_enter Tryd.func19, Tryd.ntmps19
    go_wp2
    go_ret
    exact ⟨_, 0, [], rfl, by omega, World.ownsRow_nil _ _ _ _, D.out, grown_below (Below.refl _ _)⟩
  · have hne : h.toList.isEmpty = false := by
      cases hq : h.toList.isEmpty
      · rfl
      · exfalso
        rw [ByteArray.toList_eq] at hq
        have hq' : h.data = #[] := by simpa using hq
        exact h0 (by show h.data.size = 0; rw [hq']; rfl)
    have F : Hid (DecAt (w.setCell ⟨b, 0, none⟩ (.string ⟨#[]⟩)) b ⟨#[]⟩ ∧ w.grownBy (w.setCell ⟨b, 0, none⟩ (.string ⟨#[]⟩)) (some b)) := ⟨d.set _, grown_set _ _ _⟩
    have e1 : (w.setCell ⟨b, 0, none⟩ (.string ⟨#[]⟩)).heap.size = w.heap.size := by simp [World.setCell]
    have hN := World.alloc_heap_new (w.setCell ⟨b, 0, none⟩ (.string ⟨#[]⟩)) (.cells #[.int .i32 65533] 21)
    rw [e1] at hN
    have HN : Hid (((w.setCell ⟨b, 0, none⟩ (.string ⟨#[]⟩)).alloc (.cells #[.int .i32 65533] 21)).heap[w.heap.size]? = some (.cells #[.int .i32 65533] 21 (0, 0))) := hN
    clear d hN e1
    go_enter Tryd.func19, Tryd.ntmps19
    go_wp2
    go_ret
    exact ⟨_, 1, [.int .i32 65533], rfl, by omega, ⟨rfl, .inr ⟨_, _, _, rfl, Nat.le_refl _, HN.out, by omega, by decide, rfl, rfl⟩⟩, F.out.1.below ((Below.refl _ _).alloc (Nat.le_refl _) _), grown_trans F.out.2 (grown_below ((Below.refl _ _).alloc (Nat.le_refl _) _))⟩
theorem own_store {W : World} {b e g n cap : Nat} {xs : List Value} {j : Nat} (x : Value) (h : W.ownsRow b e 1 (.slice (some ⟨g, 0, none⟩) n cap) n xs) (_hj : j < n) : (W.setCell ⟨g, j, none⟩ x).ownsRow b e 1 (.slice (some ⟨g, 0, none⟩) n cap) n (xs.set j x) := by
  obtain ⟨h1, ⟨h2, _⟩ | ⟨g', cap', cur, h2, h3, h4, h5, h6, h7, h8⟩⟩ := h
  · cases h2
  · cases h2
    refine ⟨by rw [List.length_set]; exact h1, .inr ⟨g, cap, cur.setIfInBounds j x, rfl, h3, ?_, h5, h6, by simpa using h7, ?_⟩⟩
    · simp only [World.setCell, Array.getElem?_modify, if_true, h4, Option.map_some]; rfl
    · rw [← h8]
      simp [List.take_set]
theorem own_store4 {W : World} {b e g n cap : Nat} {xs : List Value} {j : Nat} (x : Value) (h : W.ownsRow b e 4 (.slice (some ⟨g, 0, none⟩) n cap) n xs) : (W.setCell ⟨g, j, none⟩ x).ownsRow b e 4 (.slice (some ⟨g, 0, none⟩) n cap) n (xs.set j x) := by
  obtain ⟨h1, ⟨h2, _⟩ | ⟨g', cap', cur, h2, h3, h4, h5, h6, h7, h8⟩⟩ := h
  · cases h2
  · cases h2
    refine ⟨by rw [List.length_set]; exact h1, .inr ⟨g, cap, cur.setIfInBounds j x, rfl, h3, ?_, h5, h6, by simpa using h7, ?_⟩⟩
    · simp only [World.setCell, Array.getElem?_modify, if_true, h4, Option.map_some]; rfl
    · rw [← h8]
      simp [List.take_set]
theorem own_cell4 {W : World} {b e g n cap : Nat} {xs : List Value} {j : Nat} (h : W.ownsRow b e 4 (.slice (some ⟨g, 0, none⟩) n cap) n xs) (hj : j < n * 4) : (∃ y, W.cell? ⟨g, j, none⟩ = some y) ∧ W.frozen? ⟨g, j, none⟩ = false := by
  obtain ⟨h1, ⟨h2, _⟩ | ⟨g', cap', cur, h2, h3, h4, h5, h6, h7, h8⟩⟩ := h
  · cases h2
  · cases h2
    have hl : j < cur.size := by omega
    exact ⟨⟨cur[j], by simp [World.cell?, h4, hl]⟩, by simp [World.frozen?, h4]⟩
theorem grown_cell (W : World) (g j : Nat) (x : Value) : W.grownBy (W.setCell ⟨g, j, none⟩ x) (some g) :=
  ⟨rfl, rfl, rfl, by simp [World.setCell], fun k _ hk => Below.heap_setCell _ _ _ _ (fun e => hk (by rw [e]))⟩
theorem own_froz {W : World} {b e g n cap : Nat} {xs : List Value} (h : W.ownsRow b e 1 (.slice (some ⟨g, 0, none⟩) n cap) n xs) (j : Nat) : W.frozen? ⟨g, j, none⟩ = false := by
  obtain ⟨h1, ⟨h2, _⟩ | ⟨g', cap', cur, h2, h3, h4, h5, h6, h7, h8⟩⟩ := h
  · cases h2
  · cases h2
    simp [World.frozen?, h4]
theorem owns_low {W : World} {b b' e size n : Nat} {v : Value} {xs : List Value} (h : W.ownsRow b e size v n xs) (hb : b' ≤ b) : W.ownsRow b' e size v n xs := by
  obtain ⟨h1, h2 | ⟨g, cap, cur, h2, h3, h4⟩⟩ := h
  · exact ⟨h1, .inl h2⟩
  · exact ⟨h1, .inr ⟨g, cap, cur, h2, Nat.le_trans hb h3, h4⟩⟩
/-- What is written on row i. -/
def mk4 (i n : Nat) : List Value := List.replicate n (.int .i32 (-1 - (i : Int)))
/-- Four rows, of which the first k were written on; what else is there stays: the document's list, the decoder, the four values, what lay below. -/
structure Mem (vf : Nat → Value) (nf : Nat → Nat) (vw : Value) (zs : List Int) (D gl : Nat) (w : World) (k : Nat) (W : World) : Prop where
  rows : ∀ i, i < 4 → ∃ X, W.ownsRow w.heap.size 21 1 (vf i) (nf i) X ∧ (i < k → X = mk4 i (nf i))
  want : W.ownsRow w.heap.size 21 1 vw zs.length (zs.map fun z => Value.int .i32 z)
  dec : DecAt W D ⟨#[]⟩
  lists : W.heap[gl]? = some (.cells #[vf 0, vf 1, vf 2, vf 3] 23 (0, 0))
  low : Below w.heap.size w W
/-- Where these lie: no two in one block. -/
structure Apt (vf : Nat → Value) (vw : Value) (D gl : Nat) (H : Nat) (w : World) : Prop where
  two : ∀ i j, i < 4 → j < 4 → i ≠ j → ∀ g, (vf i).ownBlock = some g → (vf j).ownBlock ≠ some g
  want : ∀ i, i < 4 → ∀ g, (vf i).ownBlock = some g → vw.ownBlock ≠ some g
  dec : ∀ i, i < 4 → (vf i).ownBlock ≠ some D
  lists : ∀ i, i < 4 → (vf i).ownBlock ≠ some gl
  low : ∀ i, i < 4 → ∀ g, (vf i).ownBlock = some g → w.heap.size ≤ g ∧ g < H
/-- A step that turns one row's block, or a new one, alone. -/
theorem Mem.step {vf : Nat → Value} {nf : Nat → Nat} {vw : Value} {zs : List Int} {D gl H : Nat} {w : World} {k : Nat} {W W' : World} (h : Mem vf nf vw zs D gl w k W) (hA : Apt vf vw D gl H w) {i g : Nat} (hi : i < 4) (hg : (vf i).ownBlock = some g) (hgr : W.grownBy W' (some g)) {k' : Nat} (hk : ∀ j, j < k' → j < k ∨ j = i)
    (hrow : ∃ X, W'.ownsRow w.heap.size 21 1 (vf i) (nf i) X ∧ (i < k' → X = mk4 i (nf i))) : Mem vf nf vw zs D gl w k' W' := by
  have hlt := (Array.getElem?_eq_some_iff.1 h.lists).1
  refine ⟨fun j hj => ?_, h.want.kept hgr (.inr (hA.want i hi g hg)), ?_, ?_, h.low.grown hgr h.low.size (fun q e => by cases e; exact (hA.low i hi g hg).1)⟩
  · by_cases e : j = i
    · subst e; exact hrow
    · obtain ⟨X, h1, h2⟩ := h.rows j hj
      exact ⟨X, h1.kept hgr (.inr (hA.two i j hi hj (Ne.symm e) g hg)), fun q => h2 ((hk j q).resolve_right e)⟩
  · exact (hgr.block D h.dec.lt (fun e => hA.dec i hi (by rw [hg, ← e]))).trans h.dec
  · exact (hgr.block gl hlt (fun e => hA.lists i hi (by rw [hg, ← e]))).trans h.lists
theorem Mem.below {vf : Nat → Value} {nf : Nat → Nat} {vw : Value} {zs : List Int} {D gl : Nat} {w : World} {k : Nat} {W W' : World} (h : Mem vf nf vw zs D gl w k W) (hb : Below W.heap.size W W') : Mem vf nf vw zs D gl w k W' :=
  ⟨fun i hi => by obtain ⟨X, h1, h2⟩ := h.rows i hi; exact ⟨X, owns_below h1 hb, h2⟩, owns_below h.want hb, h.dec.below hb, (hb.block gl (Array.getElem?_eq_some_iff.1 h.lists).1).trans h.lists, h.low.trans (hb.mono h.low.size)⟩
/-- A step that turns a block that none of these has. -/
theorem Mem.far {vf : Nat → Value} {nf : Nat → Nat} {vw : Value} {zs : List Int} {D gl : Nat} {w : World} {k : Nat} {W W' : World} (h : Mem vf nf vw zs D gl w k W) (hA : Apt vf vw D gl gl w) (hw : ∀ g, vw.ownBlock = some g → g < gl) (hD : D < gl) {q : Nat} (hq : gl < q) (hwq : w.heap.size ≤ q) (hgr : W.grownBy W' (some q)) : Mem vf nf vw zs D gl w k W' := by
  have hlt := (Array.getElem?_eq_some_iff.1 h.lists).1
  refine ⟨fun j hj => ?_, h.want.kept hgr (.inr (fun e => by have := hw q e; omega)), ?_, ?_, h.low.grown hgr h.low.size (fun j e => by cases e; exact hwq)⟩
  · obtain ⟨X, h1, h2⟩ := h.rows j hj
    exact ⟨X, h1.kept hgr (.inr (fun e => by have := (hA.low j hj q e).2; omega)), h2⟩
  · exact (hgr.block D h.dec.lt (fun e => by cases e; omega)).trans h.dec
  · exact (hgr.block gl hlt (fun e => by cases e; omega)).trans h.lists
theorem cap_same {W : World} {b b' e n n' g c c' : Nat} {xs xs' : List Value} (h : W.ownsRow b e 1 (.slice (some ⟨g, 0, none⟩) n c) n xs) (h' : W.ownsRow b' e 1 (.slice (some ⟨g, 0, none⟩) n' c') n' xs') : c = c' := by
  obtain ⟨_, ⟨h2, _⟩ | ⟨g1, cap1, cur1, h2, _, h4, _, _, h7, _⟩⟩ := h
  · cases h2
  · cases h2
    obtain ⟨_, ⟨k2, _⟩ | ⟨g2, cap2, cur2, k2, _, k4, _, _, k7, _⟩⟩ := h'
    · cases k2
    · cases k2
      rw [h4] at k4
      cases k4
      omega
theorem form_of {W : World} {b e n g : Nat} {v : Value} {xs : List Value} (h : W.ownsRow b e 1 v n xs) (hb : v.ownBlock = some g) : ∃ c, v = .slice (some ⟨g, 0, none⟩) n c := by
  obtain ⟨_, ⟨rfl, _⟩ | ⟨g1, cap1, cur1, rfl, _⟩⟩ := h
  · cases hb
  · cases hb; exact ⟨_, rfl⟩
/-- The list that grows out of row k: what it holds, and where. -/
def App (vf : Nat → Value) (k n gl : Nat) (w : World) (x : Value) (m : Nat) (W : World) : Prop :=
  W.ownsRow w.heap.size 21 1 x (n + m) (mk4 k n ++ List.replicate m (.int .i32 77)) ∧ (x.ownBlock = (vf k).ownBlock ∨ ∃ h, x.ownBlock = some h ∧ gl < h)
/-- One append more. -/
theorem app_step {vf : Nat → Value} {nf : Nat → Nat} {vw : Value} {zs : List Int} {D gl : Nat} {w : World} {k m : Nat} {W W' : World} {x x' : Value} (hM : Mem vf nf vw zs D gl w 4 W) (hA : Apt vf vw D gl gl w) (hw : ∀ g, vw.ownBlock = some g → g < gl) (hD : D < gl) (hk : k < 4) (hwg : w.heap.size ≤ gl) (hap : App vf k (nf k) gl w x m W)
    (hnew : W'.ownsRow w.heap.size 21 1 x' (nf k + m + 1) ((mk4 k (nf k) ++ List.replicate m (.int .i32 77)) ++ [.int .i32 77])) (hgr : W.grownBy W' x.ownBlock) (hat : x'.ownBlock = x.ownBlock ∨ x'.ownBlock = some W.heap.size) (hold : W'.ownsRow w.heap.size 21 1 x (nf k + m) (mk4 k (nf k) ++ List.replicate m (.int .i32 77))) :
    Mem vf nf vw zs D gl w 4 W' ∧ App vf k (nf k) gl w x' (m + 1) W' := by
  have hlt := (Array.getElem?_eq_some_iff.1 hM.lists).1
  refine ⟨?_, by rw [List.replicate_succ', ← List.append_assoc]; exact hnew, ?_⟩
  · rcases hap.2 with h | ⟨q, h, hq⟩
    · cases hb : (vf k).ownBlock with
      | none =>
        rw [h, hb] at hgr
        exact hM.below ⟨hgr.os, hgr.tape, hgr.output, hgr.size, fun j hj => hgr.block j hj (by simp)⟩
      | some g =>
        rw [h, hb] at hgr
        refine hM.step hA hk hb hgr (fun j hj => .inl hj) ⟨mk4 k (nf k), ?_, fun _ => rfl⟩
        obtain ⟨X, h1, h2⟩ := hM.rows k hk
        obtain ⟨c, hv⟩ := form_of h1 hb
        obtain ⟨cx, hx⟩ := form_of hap.1 (h.trans hb)
        rw [hv] at h1
        have h3 := hap.1
        rw [hx] at h3 hold
        have ec := cap_same h1 h3
        rw [hv, ec]
        exact owns_front hold (by unfold mk4; rw [List.length_replicate])
    · rw [h] at hgr
      exact hM.far hA hw hD hq (by omega) hgr
  · rcases hat with e | e
    · rw [e]; exact hap.2
    · exact .inr ⟨_, e, hlt⟩
end Go.Proofs.YtabofadjnbpjkabDoor
