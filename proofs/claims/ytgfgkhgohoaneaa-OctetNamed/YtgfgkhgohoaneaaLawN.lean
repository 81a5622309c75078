/-
  The walk of the law OctetNamed: it returns true and turns nothing that was there. Condition: the text is no longer than a text can be.
-/
import Derived.Test.YtgfgkhgohoaneaaRnm
import Derived.Test.YtgfgkhgohoaneaaRfind
import Derived.Test.YtgfgkhgohoaneaaOf
import Derived.Test.YtgfgkhgohoaneaaEqs
import Derived.Deep.RegionHeld3
namespace Go.Proofs.Ytgfgkhgohoaneaa
open Go.RowKit
attribute [local go_sem] rowOf_size isRow_at isRow_past rowIn_at rowIn_past setRow_at
attribute [local go_sem] st_at
theorem celLit (w : World) (X : Nat → Int) (t : TypeId) : Cel .u64 (w.alloc (.cells #[.int .u64 (X 0), .int .u64 (X 1), .int .u64 (X 2), .int .u64 (X 3)] t)) w.heap.size 4 X := Cel.new w _ t fun j hj => by
  match j, hj with
  | 0, _ => rfl
  | 1, _ => rfl
  | 2, _ => rfl
  | 3, _ => rfl
theorem b01_has (q : Nat → Bool) (b : Nat) : (b01 q b == 1) = hasB (wd q) b := by
  rw [has_wd]
  unfold b01
  cases q b <;> rfl
theorem hide {p : Prop} (h : p) : Hid p := h

/-- What the law's own memory holds: the set's words in block b, its bytes in block m; below it nothing has turned. -/
theorem holds_below {w v v' : World} {X : Nat → Int} {b m : Nat} {cs : List Value}
    (h : v.cell? ⟨b, 0, none⟩ = some (.int .u64 (X 0)) ∧ v.cell? ⟨b, 1, none⟩ = some (.int .u64 (X 1)) ∧ v.cell? ⟨b, 2, none⟩ = some (.int .u64 (X 2)) ∧ v.cell? ⟨b, 3, none⟩ = some (.int .u64 (X 3)) ∧ v.rangeAt m 0 cs ∧ m < v.heap.size ∧ Below w.heap.size w v)
    (hb : Below v.heap.size v v') :
    v'.cell? ⟨b, 0, none⟩ = some (.int .u64 (X 0)) ∧ v'.cell? ⟨b, 1, none⟩ = some (.int .u64 (X 1)) ∧ v'.cell? ⟨b, 2, none⟩ = some (.int .u64 (X 2)) ∧ v'.cell? ⟨b, 3, none⟩ = some (.int .u64 (X 3)) ∧ v'.rangeAt m 0 cs ∧ m < v'.heap.size ∧ Below w.heap.size w v' := by
  obtain ⟨h0, h1, h2, h3, hr, hm, hi⟩ := h
  have lb : b < v.heap.size := block_lt_of_cell h0
  refine ⟨?_, ?_, ?_, ?_, ?_, ?_, ?_⟩
  · rw [hb.cell lb]; exact h0
  · rw [hb.cell lb]; exact h1
  · rw [hb.cell lb]; exact h2
  · rw [hb.cell lb]; exact h3
  · intro j u hu
    rw [hb.cell hm]; exact hr j u hu
  · have := hb.size; omega
  · exact hi.trans (hb.mono hi.size)
theorem holds_drew {w v : World} {X : Nat → Int} {b m : Nat} {cs : List Value}
    (h : v.cell? ⟨b, 0, none⟩ = some (.int .u64 (X 0)) ∧ v.cell? ⟨b, 1, none⟩ = some (.int .u64 (X 1)) ∧ v.cell? ⟨b, 2, none⟩ = some (.int .u64 (X 2)) ∧ v.cell? ⟨b, 3, none⟩ = some (.int .u64 (X 3)) ∧ v.rangeAt m 0 cs ∧ m < v.heap.size ∧ Below w.heap.size w v) :
    v.drew.cell? ⟨b, 0, none⟩ = some (.int .u64 (X 0)) ∧ v.drew.cell? ⟨b, 1, none⟩ = some (.int .u64 (X 1)) ∧ v.drew.cell? ⟨b, 2, none⟩ = some (.int .u64 (X 2)) ∧ v.drew.cell? ⟨b, 3, none⟩ = some (.int .u64 (X 3)) ∧ v.drew.rangeAt m 0 cs ∧ m < v.drew.heap.size ∧ Below w.heap.size w v.drew :=
  ⟨h.1, h.2.1, h.2.2.1, h.2.2.2.1, h.2.2.2.2.1, h.2.2.2.2.2.1, h.2.2.2.2.2.2.drew⟩
theorem holds_far {w v : World} {X : Nat → Int} {b m : Nat} {cs : List Value} (h : v.cell? ⟨b, 0, none⟩ = some (.int .u64 (X 0)) ∧ v.cell? ⟨b, 1, none⟩ = some (.int .u64 (X 1)) ∧ v.cell? ⟨b, 2, none⟩ = some (.int .u64 (X 2)) ∧ v.cell? ⟨b, 3, none⟩ = some (.int .u64 (X 3)) ∧ v.rangeAt m 0 cs ∧ m < v.heap.size ∧ Below w.heap.size w v) (a : Addr) (u : Value) (h1 : a.block ≠ b) (h2 : a.block ≠ m) (h3 : w.heap.size ≤ a.block) : (v.setCell a u).cell? ⟨b, 0, none⟩ = some (.int .u64 (X 0)) ∧ (v.setCell a u).cell? ⟨b, 1, none⟩ = some (.int .u64 (X 1)) ∧ (v.setCell a u).cell? ⟨b, 2, none⟩ = some (.int .u64 (X 2)) ∧ (v.setCell a u).cell? ⟨b, 3, none⟩ = some (.int .u64 (X 3)) ∧ (v.setCell a u).rangeAt m 0 cs ∧ m < (v.setCell a u).heap.size ∧ Below w.heap.size w (v.setCell a u) := by
  obtain ⟨k0, k1, k2, k3, hr, hm, hi⟩ := h
  refine ⟨?_, ?_, ?_, ?_, ?_, ?_, hi.setCell h3 u⟩
  · rw [World.cell?_setCell_other v _ _ _ (fun q => h1 (congrArg Addr.block q))]; exact k0
  · rw [World.cell?_setCell_other v _ _ _ (fun q => h1 (congrArg Addr.block q))]; exact k1
  · rw [World.cell?_setCell_other v _ _ _ (fun q => h1 (congrArg Addr.block q))]; exact k2
  · rw [World.cell?_setCell_other v _ _ _ (fun q => h1 (congrArg Addr.block q))]; exact k3
  · intro j x hx
    rw [World.cell?_setCell_other v _ _ _ (fun q => h2 (congrArg Addr.block q))]; exact hr j x hx
  · simpa [World.setCell] using hm
theorem holds_end {w v : World} {X : Nat → Int} {b m : Nat} {cs : List Value} (h : v.cell? ⟨b, 0, none⟩ = some (.int .u64 (X 0)) ∧ v.cell? ⟨b, 1, none⟩ = some (.int .u64 (X 1)) ∧ v.cell? ⟨b, 2, none⟩ = some (.int .u64 (X 2)) ∧ v.cell? ⟨b, 3, none⟩ = some (.int .u64 (X 3)) ∧ v.rangeAt m 0 cs ∧ m < v.heap.size ∧ Below w.heap.size w v) : Below w.heap.size w v := h.2.2.2.2.2.2
theorem holds_of {w v : World} {p : Nat → Bool} {b m : Nat} {cs : List Value} (h5 : Cel .u64 v b 4 (wd p)) (h7 : Hr v m p) (hb : Below w.heap.size w v) (hc : (rowOf .u8 256 (b01 p)) = cs.toArray) : v.cell? ⟨b, 0, none⟩ = some (.int .u64 (wd p 0)) ∧ v.cell? ⟨b, 1, none⟩ = some (.int .u64 (wd p 1)) ∧ v.cell? ⟨b, 2, none⟩ = some (.int .u64 (wd p 2)) ∧ v.cell? ⟨b, 3, none⟩ = some (.int .u64 (wd p 3)) ∧ v.rangeAt m 0 cs ∧ m < v.heap.size ∧ Below w.heap.size w v := by
  refine ⟨(h5 0 (by omega)).1, (h5 1 (by omega)).1, (h5 2 (by omega)).1, (h5 3 (by omega)).1, ?_, h7.lt, hb⟩
  intro j u hu
  obtain ⟨⟨c', t, hg, _⟩, h2⟩ := h7
  have e : c' = cs.toArray := by unfold rowIn at h2; rw [hg] at h2; rw [← hc, ← h2]
  rw [cell_of_row v m (0 + j) c' t (0, 0) hg, e]
  simpa using hu
theorem holds_to {v v' : World} {p : Nat → Bool} {b m : Nat} (h5 : Cel .u64 v b 4 (wd p)) (h7 : Hr v m p) (hb : Below v.heap.size v v') : Cel .u64 v' b 4 (wd p) ∧ Hr v' m p := ⟨h5.below hb (h5.lt (by omega)), h7.below hb h7.lt⟩
theorem rfind_cs (s : ByteArray) (f : Nat → Int) (p : Nat → Bool) (fr : Int) (cs : List Value) (w : World) (hs : s.size ≤ maxLen) (hp : ∀ b, b < 256 → (f b == 1) = p b) (hc : rowOf .u8 256 f = cs.toArray) : Calls Try.prog 29 #[.string s, .agg cs.toArray, .int .i64 fr] w fun e w' => e = .returned (.int .i64 (firstOf (fun j => p (byteAt s j)) s.size fr)) ∧ Below w.heap.size w w' := by
  have := rfind_is s f p fr w hs hp
  rw [hc] at this
  exact this
theorem words_cs (p : Nat → Bool) (cs : List Value) (w : World) (hc : (rowOf .u8 256 (b01 p)) = cs.toArray) : Calls Try.prog 19 #[.agg cs.toArray] w fun e w' => e = .returned (.agg #[.int .u64 ((wd p) 0), .int .u64 ((wd p) 1), .int .u64 ((wd p) 2), .int .u64 ((wd p) 3)]) ∧ Below w.heap.size w w' := by
  have := words_any p w
  rw [hc] at this
  exact this

set_option maxRecDepth 100000 in
set_option maxHeartbeats 1600000 in
theorem law6 (n : Int) (s : ByteArray) (w : World) (hs : s.size ≤ maxLen) : Calls Try.prog 6 #[.int .i64 n, .string s] w fun e w' => e = .returned (.bool true) ∧ Below w.heap.size w w' := by
  have HS : Hid (s.size ≤ maxLen) := hs
  unfold maxLen at hs
  obtain ⟨hz, hi⟩ := zero_of_info info35
  clear hi
  go_enter Try.func6, Try.ntmps6
  go_wp2_with fail
  refine (named_any n _).mono ?_
  rintro e w1 ⟨rfl, hb1⟩
  obtain ⟨K, HK⟩ : ∃ K, Hid (nameK n = K) := ⟨_, rfl⟩
  obtain ⟨E, HE⟩ : ∃ E, Hid (nameE n = E) := ⟨_, rfl⟩
  rw [HK.out, HE.out]
  obtain ⟨q, Hq⟩ : ∃ q, Hid (setP K = q) := ⟨_, rfl⟩
  rw [Hq.out]
  have g5 : Cel .u64 (w1.alloc (.cells #[.int .u64 ((wd q) 0), .int .u64 ((wd q) 1), .int .u64 ((wd q) 2), .int .u64 ((wd q) 3)] 32)) w1.heap.size 4 (wd q) := Cel.new w1 _ 32 fun j hj => by
    match j, hj with
    | 0, _ => rfl
    | 1, _ => rfl
    | 2, _ => rfl
    | 3, _ => rfl
  have hB := hb1.alloc hb1.size (.cells #[.int .u64 ((wd q) 0), .int .u64 ((wd q) 1), .int .u64 ((wd q) 2), .int .u64 ((wd q) 3)] 32)
  clear hb1
  go_wp2_with fail
  refine (rnamed_any n _).mono ?_
  rintro e w2 ⟨rfl, hb2⟩
  rw [HK.out, HE.out, Hq.out]
  replace g5 := (g5.below hb2 (g5.lt (by omega))).alloc (by omega) (.cells (rowOf .u8 256 (b01 q)) 35)
  replace hB := (hB.trans (hb2.mono hB.size)).alloc (by have := hb2.size; have := hB.size; omega) (.cells (rowOf .u8 256 (b01 q)) 35)
  have g7 := Hr.new w2 q 35
  clear hb2
  go_wp2_with fail
  obtain ⟨V, hV⟩ : ∃ V, w2.alloc (.cells (rowOf .u8 256 (b01 q)) 35) = V := ⟨_, rfl⟩
  rw [hV] at g5 g7 hB ⊢
  clear hV hz
  obtain ⟨cs, hcs⟩ : ∃ cs : List Value, (rowOf .u8 256 (b01 q)) = cs.toArray := ⟨(rowOf .u8 256 (b01 q)).toList, by simp⟩
  have hlen : cs.length = 256 := by have := rowOf_size .u8 256 (b01 q); rw [hcs] at this; simpa using this
  have HC : Hid ((rowOf .u8 256 (b01 q)) = cs.toArray) := hcs
  have hH := holds_of g5 g7 hB hcs
  have HH := hide (show Cel .u64 V w1.heap.size 4 (wd q) ∧ Hr V w2.heap.size q from ⟨g5, g7⟩)
  clear hcs g5 g7 hB
  have hu35 := Try.underlying35
  have hi35 : (Try.prog.info? 35).map (·.size) = some cs.length := by rw [hlen]; kernel_rfl
  have q31 := eq31 (wd q 0) (wd q 1) (wd q 2) (wd q 3)
  go_region_held3 (fun v => v.cell? ⟨w1.heap.size, 0, none⟩ = some (.int .u64 (wd q 0)) ∧ v.cell? ⟨w1.heap.size, 1, none⟩ = some (.int .u64 (wd q 1)) ∧ v.cell? ⟨w1.heap.size, 2, none⟩ = some (.int .u64 (wd q 2)) ∧ v.cell? ⟨w1.heap.size, 3, none⟩ = some (.int .u64 (wd q 3)) ∧ v.rangeAt w2.heap.size 0 cs ∧ w2.heap.size < v.heap.size ∧ Below w.heap.size w v)
    (first
      | exact holds_drew hH
      | exact holds_below (X := wd q) (cs := cs) (by assumption) hb)
    (first
      | (go_at_call 9; refine (awake_any _).mono ?_; rintro e w' ⟨rfl, rfl⟩)
      | (go_at_call 19; refine (words_cs q cs _ HC.out).mono ?_; rintro e w' ⟨rfl, hb⟩))
  rename_i hS
  clear hb hH HH q31
  go_wp2_with fail
  go_loopw [9] (fun i wr => ∃ k : Nat, 3 ≤ k ∧ k ≤ 8 ∧ i = .int .i64 k ∧ wr.cell? ⟨w1.heap.size, 0, none⟩ = some (.int .u64 (wd q 0)) ∧ wr.cell? ⟨w1.heap.size, 1, none⟩ = some (.int .u64 (wd q 1)) ∧ wr.cell? ⟨w1.heap.size, 2, none⟩ = some (.int .u64 (wd q 2)) ∧ wr.cell? ⟨w1.heap.size, 3, none⟩ = some (.int .u64 (wd q 3)) ∧ wr.rangeAt w2.heap.size 0 cs ∧ w2.heap.size < wr.heap.size ∧ Below w.heap.size w wr) (fun i _ => 8 - (intOf i).toNat)
  case atStart => exact ⟨3, by omega, by omega, rfl, hS⟩
  case round =>
    clear hS
    obtain ⟨k, hk3, hk8, rfl, hS⟩ := hrel
    rcases (show k = 3 ∨ k = 4 ∨ k = 5 ∨ k = 6 ∨ k = 7 ∨ k = 8 from by omega) with rfl | rfl | rfl | rfl | rfl | rfl
    · clear hk3 hk8
      have hm : ∀ i, i < 4 → minusS (wd (setP 3)) (wd (setP 4)) i = 0 := fun i hi => (minus_wd _ _ i).trans ((wd_congr (q := fun _ => false) (by decide +kernel) i hi).trans (wd_none i))
      have HM := hide hm
      clear hm
      have q32 := eq32 0 0 0 0
      go_wp2_with fail
      refine (named3 _).mono ?_
      rintro e w3 ⟨rfl, hb3⟩
      replace hS := holds_below hS hb3
      have c3 := celLit w3 (wd (setP 3)) 32
      replace hS := holds_below hS ((Below.refl w3.heap.size w3).alloc (Nat.le_refl _) (.cells #[.int .u64 ((wd (setP 3)) 0), .int .u64 ((wd (setP 3)) 1), .int .u64 ((wd (setP 3)) 2), .int .u64 ((wd (setP 3)) 3)] 32))
      clear hb3
      go_wp2_with fail
      refine (named4 _).mono ?_
      rintro e w4 ⟨rfl, hb4⟩
      replace hS := holds_below hS hb4
      replace c3 := c3.below hb4 (c3.lt (by omega))
      replace hS := holds_below hS ((Below.refl w4.heap.size w4).alloc (Nat.le_refl _) (.cells #[.int .u64 ((wd (setP 4)) 0), .int .u64 ((wd (setP 4)) 1), .int .u64 ((wd (setP 4)) 2), .int .u64 ((wd (setP 4)) 3)] 32))
      clear hb4
      have hl3 := c3.lt (by omega)
      obtain ⟨x0, y0⟩ := c3 0 (by omega)
      obtain ⟨x1, y1⟩ := c3 1 (by omega)
      obtain ⟨x2, y2⟩ := c3 2 (by omega)
      obtain ⟨x3, y3⟩ := c3 3 (by omega)
      go_wp2_with fail
      refine (minus_any (wd (setP 3)) (wd (setP 4)) _).mono ?_
      rintro e w6 ⟨rfl, hb6⟩
      rw [HM.out 0 (by omega), HM.out 1 (by omega), HM.out 2 (by omega), HM.out 3 (by omega)]
      replace hS := holds_below hS hb6
      clear hb6
      go_wp2
      exact ⟨⟨4, by omega, by omega, by go_num, hS⟩, by simp [intOf]⟩
    · clear hk3 hk8
      have hm : ∀ i, i < 4 → minusS (wd (setP 3)) (wd (setP 5)) i = 0 := fun i hi => (minus_wd _ _ i).trans ((wd_congr (q := fun _ => false) (by decide +kernel) i hi).trans (wd_none i))
      have HM := hide hm
      clear hm
      have q32 := eq32 0 0 0 0
      go_wp2_with fail
      refine (named4 _).mono ?_
      rintro e w3 ⟨rfl, hb3⟩
      replace hS := holds_below hS hb3
      have l1 : w1.heap.size < w3.heap.size := block_lt_of_cell hS.1
      have l2 := hS.2.2.2.2.2.1
      have l3 := (holds_end hS).size
      have c3 := celLit w3 (wd (setP 4)) 32
      replace hS := holds_below hS ((Below.refl w3.heap.size w3).alloc (Nat.le_refl _) (.cells #[.int .u64 ((wd (setP 4)) 0), .int .u64 ((wd (setP 4)) 1), .int .u64 ((wd (setP 4)) 2), .int .u64 ((wd (setP 4)) 3)] 32))
      clear hb3
      go_wp2_with fail
      refine (named5 _).mono ?_
      rintro e w4 ⟨rfl, hb4⟩
      replace hS := holds_below hS hb4
      replace c3 := c3.below hb4 (c3.lt (by omega))
      replace hS := holds_below hS ((Below.refl w4.heap.size w4).alloc (Nat.le_refl _) (.cells #[.int .u64 ((wd (setP 5)) 0), .int .u64 ((wd (setP 5)) 1), .int .u64 ((wd (setP 5)) 2), .int .u64 ((wd (setP 5)) 3)] 32))
      clear hb4
      have hl3 := c3.lt (by omega)
      have c4 := celLit w4 (wd (setP 5)) 32
      replace c3 := c3.alloc (by omega) (.cells #[.int .u64 ((wd (setP 5)) 0), .int .u64 ((wd (setP 5)) 1), .int .u64 ((wd (setP 5)) 2), .int .u64 ((wd (setP 5)) 3)] 32)
      go_wp2_with fail
      refine (named3 _).mono ?_
      rintro e w5 ⟨rfl, hb5⟩
      replace hS := holds_below hS hb5
      replace c3 := c3.below hb5 (c3.lt (by omega))
      replace c4 := c4.below hb5 (c4.lt (by omega))
      have hne : ¬ w3.heap.size = w4.heap.size := by omega
      have hne' : ¬ w4.heap.size = w3.heap.size := by omega
      clear hb5
      obtain ⟨x0, y0⟩ := c3 0 (by omega)
      obtain ⟨x1, y1⟩ := c3 1 (by omega)
      obtain ⟨x2, y2⟩ := c3 2 (by omega)
      obtain ⟨x3, y3⟩ := c3 3 (by omega)
      obtain ⟨v0, z0⟩ := c4 0 (by omega)
      obtain ⟨v1, z1⟩ := c4 1 (by omega)
      obtain ⟨v2, z2⟩ := c4 2 (by omega)
      obtain ⟨v3, z3⟩ := c4 3 (by omega)
      go_wp2_with fail
      replace hS := holds_far hS ⟨w3.heap.size, 0, none⟩ (.int .u64 (wd (setP 3) 0)) (by simp; omega) (by simp; omega) (by simp; omega)
      replace hS := holds_far hS ⟨w3.heap.size, 1, none⟩ (.int .u64 (wd (setP 3) 1)) (by simp; omega) (by simp; omega) (by simp; omega)
      replace hS := holds_far hS ⟨w3.heap.size, 2, none⟩ (.int .u64 (wd (setP 3) 2)) (by simp; omega) (by simp; omega) (by simp; omega)
      replace hS := holds_far hS ⟨w3.heap.size, 3, none⟩ (.int .u64 (wd (setP 3) 3)) (by simp; omega) (by simp; omega) (by simp; omega)
      refine (minus_any (wd (setP 3)) (wd (setP 5)) _).mono ?_
      rintro e w6 ⟨rfl, hb6⟩
      rw [HM.out 0 (by omega), HM.out 1 (by omega), HM.out 2 (by omega), HM.out 3 (by omega)]
      replace hS := holds_below hS hb6
      clear hb6
      go_wp2
      exact ⟨⟨5, by omega, by omega, by go_num, hS⟩, by simp [intOf]⟩
    · clear hk3 hk8
      have hm : ∀ i, i < 4 → minusS (wd (setP 5)) (wd (setP 6)) i = 0 := fun i hi => (minus_wd _ _ i).trans ((wd_congr (q := fun _ => false) (by decide +kernel) i hi).trans (wd_none i))
      have HM := hide hm
      clear hm
      have q32 := eq32 0 0 0 0
      go_wp2_with fail
      refine (named5 _).mono ?_
      rintro e w3 ⟨rfl, hb3⟩
      replace hS := holds_below hS hb3
      have c3 := celLit w3 (wd (setP 5)) 32
      replace hS := holds_below hS ((Below.refl w3.heap.size w3).alloc (Nat.le_refl _) (.cells #[.int .u64 ((wd (setP 5)) 0), .int .u64 ((wd (setP 5)) 1), .int .u64 ((wd (setP 5)) 2), .int .u64 ((wd (setP 5)) 3)] 32))
      clear hb3
      go_wp2_with fail
      refine (named6 _).mono ?_
      rintro e w4 ⟨rfl, hb4⟩
      replace hS := holds_below hS hb4
      replace c3 := c3.below hb4 (c3.lt (by omega))
      replace hS := holds_below hS ((Below.refl w4.heap.size w4).alloc (Nat.le_refl _) (.cells #[.int .u64 ((wd (setP 6)) 0), .int .u64 ((wd (setP 6)) 1), .int .u64 ((wd (setP 6)) 2), .int .u64 ((wd (setP 6)) 3)] 32))
      clear hb4
      have hl3 := c3.lt (by omega)
      obtain ⟨x0, y0⟩ := c3 0 (by omega)
      obtain ⟨x1, y1⟩ := c3 1 (by omega)
      obtain ⟨x2, y2⟩ := c3 2 (by omega)
      obtain ⟨x3, y3⟩ := c3 3 (by omega)
      go_wp2_with fail
      refine (minus_any (wd (setP 5)) (wd (setP 6)) _).mono ?_
      rintro e w6 ⟨rfl, hb6⟩
      rw [HM.out 0 (by omega), HM.out 1 (by omega), HM.out 2 (by omega), HM.out 3 (by omega)]
      replace hS := holds_below hS hb6
      clear hb6
      go_wp2
      exact ⟨⟨6, by omega, by omega, by go_num, hS⟩, by simp [intOf]⟩
    · clear hk3 hk8
      have hm : ∀ i, i < 4 → minusS (wd (setP 6)) (wd (setP 7)) i = 0 := fun i hi => (minus_wd _ _ i).trans ((wd_congr (q := fun _ => false) (by decide +kernel) i hi).trans (wd_none i))
      have HM := hide hm
      clear hm
      have q32 := eq32 0 0 0 0
      go_wp2_with fail
      refine (named6 _).mono ?_
      rintro e w3 ⟨rfl, hb3⟩
      replace hS := holds_below hS hb3
      have c3 := celLit w3 (wd (setP 6)) 32
      replace hS := holds_below hS ((Below.refl w3.heap.size w3).alloc (Nat.le_refl _) (.cells #[.int .u64 ((wd (setP 6)) 0), .int .u64 ((wd (setP 6)) 1), .int .u64 ((wd (setP 6)) 2), .int .u64 ((wd (setP 6)) 3)] 32))
      clear hb3
      go_wp2_with fail
      refine (named7 _).mono ?_
      rintro e w4 ⟨rfl, hb4⟩
      replace hS := holds_below hS hb4
      replace c3 := c3.below hb4 (c3.lt (by omega))
      replace hS := holds_below hS ((Below.refl w4.heap.size w4).alloc (Nat.le_refl _) (.cells #[.int .u64 ((wd (setP 7)) 0), .int .u64 ((wd (setP 7)) 1), .int .u64 ((wd (setP 7)) 2), .int .u64 ((wd (setP 7)) 3)] 32))
      clear hb4
      have hl3 := c3.lt (by omega)
      obtain ⟨x0, y0⟩ := c3 0 (by omega)
      obtain ⟨x1, y1⟩ := c3 1 (by omega)
      obtain ⟨x2, y2⟩ := c3 2 (by omega)
      obtain ⟨x3, y3⟩ := c3 3 (by omega)
      go_wp2_with fail
      refine (minus_any (wd (setP 6)) (wd (setP 7)) _).mono ?_
      rintro e w6 ⟨rfl, hb6⟩
      rw [HM.out 0 (by omega), HM.out 1 (by omega), HM.out 2 (by omega), HM.out 3 (by omega)]
      replace hS := holds_below hS hb6
      clear hb6
      go_wp2
      exact ⟨⟨7, by omega, by omega, by go_num, hS⟩, by simp [intOf]⟩
    · clear hk3 hk8
      have hm : ∀ i, i < 4 → minusS (wd (setP 7)) (wd (setP 8)) i = 0 := fun i hi => (minus_wd _ _ i).trans ((wd_congr (q := fun _ => false) (by decide +kernel) i hi).trans (wd_none i))
      have HM := hide hm
      clear hm
      have q32 := eq32 0 0 0 0
      go_wp2_with fail
      refine (named7 _).mono ?_
      rintro e w3 ⟨rfl, hb3⟩
      replace hS := holds_below hS hb3
      have c3 := celLit w3 (wd (setP 7)) 32
      replace hS := holds_below hS ((Below.refl w3.heap.size w3).alloc (Nat.le_refl _) (.cells #[.int .u64 ((wd (setP 7)) 0), .int .u64 ((wd (setP 7)) 1), .int .u64 ((wd (setP 7)) 2), .int .u64 ((wd (setP 7)) 3)] 32))
      clear hb3
      go_wp2_with fail
      refine (named8 _).mono ?_
      rintro e w4 ⟨rfl, hb4⟩
      replace hS := holds_below hS hb4
      replace c3 := c3.below hb4 (c3.lt (by omega))
      replace hS := holds_below hS ((Below.refl w4.heap.size w4).alloc (Nat.le_refl _) (.cells #[.int .u64 ((wd (setP 8)) 0), .int .u64 ((wd (setP 8)) 1), .int .u64 ((wd (setP 8)) 2), .int .u64 ((wd (setP 8)) 3)] 32))
      clear hb4
      have hl3 := c3.lt (by omega)
      obtain ⟨x0, y0⟩ := c3 0 (by omega)
      obtain ⟨x1, y1⟩ := c3 1 (by omega)
      obtain ⟨x2, y2⟩ := c3 2 (by omega)
      obtain ⟨x3, y3⟩ := c3 3 (by omega)
      go_wp2_with fail
      refine (minus_any (wd (setP 7)) (wd (setP 8)) _).mono ?_
      rintro e w6 ⟨rfl, hb6⟩
      rw [HM.out 0 (by omega), HM.out 1 (by omega), HM.out 2 (by omega), HM.out 3 (by omega)]
      replace hS := holds_below hS hb6
      clear hb6
      go_wp2
      exact ⟨⟨8, by omega, by omega, by go_num, hS⟩, by simp [intOf]⟩
    · clear hk3 hk8
      go_wp2_with fail
      have q31 := hu35
      go_region_held3 (fun v => v.cell? ⟨w1.heap.size, 0, none⟩ = some (.int .u64 (wd q 0)) ∧ v.cell? ⟨w1.heap.size, 1, none⟩ = some (.int .u64 (wd q 1)) ∧ v.cell? ⟨w1.heap.size, 2, none⟩ = some (.int .u64 (wd q 2)) ∧ v.cell? ⟨w1.heap.size, 3, none⟩ = some (.int .u64 (wd q 3)) ∧ v.rangeAt w2.heap.size 0 cs ∧ w2.heap.size < v.heap.size ∧ Below w.heap.size w v)
        (first
          | exact holds_drew hS
          | exact holds_below (X := wd q) (cs := cs) (by assumption) hb)
        (first
          | (go_at_call 28; refine (find_is s (wd q) 0 _ HS.out).mono ?_; rintro e w' ⟨rfl, hb⟩)
          | (go_at_call 29; refine (rfind_cs s (b01 q) (hasB (wd q)) 0 cs _ HS.out (fun b _ => b01_has q b) HC.out).mono ?_; rintro e w' ⟨rfl, hb⟩))
      rename_i hS'
      have hfin := holds_end hS'
      go_wp2
      go_ret
      exact ⟨rfl, hfin⟩
end Go.Proofs.Ytgfgkhgohoaneaa
