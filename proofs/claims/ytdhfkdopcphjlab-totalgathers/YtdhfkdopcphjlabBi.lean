/-
  The document's plus: m times 2^e more, or less. Conditions: the place lies among the digits, and no digit has come near 64 bits.
-/
import Derived.Test.YtdhfkdopcphjlabBh
import Derived.Laws.CopyOwn
namespace Go.Proofs.Ytdhfkdopcphjlab
open Go.RowKit
/-- Block b holds these digits. -/
def Bk (w : World) (b : Nat) (f : Nat → Int) : Prop := ∃ t, w.heap[b]? = some (.cells (rowB f) t (0, 0))
theorem Bk.isRow {w : World} {b : Nat} {f : Nat → Int} (h : Bk w b f) : isRow w b 280 := by obtain ⟨t, h⟩ := h; exact ⟨_, t, h, rowB_size f⟩
theorem Bk.rowIn {w : World} {b : Nat} {f : Nat → Int} (h : Bk w b f) : rowIn w b = rowB f := by obtain ⟨t, h⟩ := h; unfold Go.Proofs.Ytdhfkdopcphjlab.rowIn; rw [h]
theorem Bk.set {w : World} {b : Nat} {f : Nat → Int} (h : Bk w b f) (g : Nat → Int) : Bk (w.setRow b (rowB g)) b g := by obtain ⟨t, h⟩ := h; exact ⟨t, setRow_heap w b _ _ t _ h⟩
theorem Bk.other {w : World} {b c : Nat} {f : Nat → Int} (h : Bk w c f) (hne : c ≠ b) (r : Array Value) : Bk (w.setRow b r) c f := by obtain ⟨t, h⟩ := h; exact ⟨t, (setRow_other w b c r hne).trans h⟩
theorem Bk.lt {w : World} {b : Nat} {f : Nat → Int} (h : Bk w b f) : b < w.heap.size := by obtain ⟨t, h⟩ := h; exact (Array.getElem?_eq_some_iff.1 h).1
theorem Bk.below {w w' : World} {b : Nat} {f : Nat → Int} (h : Bk w b f) (hb : Below w.heap.size w w') : Bk w' b f := by have hl := h.lt; obtain ⟨t, h⟩ := h; exact ⟨t, (hb.block _ hl).trans h⟩
theorem Bk.new (w : World) (f : Nat → Int) : Bk (w.alloc (.cells (rowB f) 75)) w.heap.size f := ⟨_, heap_alloc_last _ _⟩
/-- A digit of 16 bits. -/
def dgt (L i : Nat) : Nat := L / 65536 ^ i % 65536
theorem dgt_lt (L i : Nat) : dgt L i < 65536 := Nat.mod_lt _ (by decide)
def sgd (ng : Bool) (d : Int) : Int := if ng = true then -d else d
/-- The digits with the first i of the four more. -/
def plW (f : Nat → Int) (k L : Nat) (ng : Bool) : Nat → Nat → Int
  | 0 => f
  | i + 1 => upd (plW f k L ng i) (k + i) (plW f k L ng i (k + i) + sgd ng (dgt L i : Nat))
theorem plW_far (f : Nat → Int) (k L : Nat) (ng : Bool) : ∀ i j, k + i ≤ j → plW f k L ng i j = f j
  | 0, _, _ => rfl
  | i + 1, j, h => by
    show upd _ _ _ j = _
    unfold upd
    rw [if_neg (by omega)]
    exact plW_far f k L ng i j (by omega)
/-- All five. -/
def plF (f : Nat → Int) (k L H : Nat) (ng : Bool) : Nat → Int := upd (plW f k L ng 4) (k + 4) (f (k + 4) + sgd ng (H : Nat))
/-- What is left above of m times 2^s. -/
def hiF (m s : Nat) : Nat := if s = 0 then 0 else m / 2 ^ (64 - s)
theorem and_ffff (x : Nat) (h : x < 18446744073709551616) : bits .and .u64 (x : Int) 65535 = ((x % 65536 : Nat) : Int) := by
  rw [show (65535 : Int) = ((65535 : Nat) : Int) from rfl, u64_and_nat _ _ h (by decide), show (65535 : Nat) = 2 ^ 16 - 1 from rfl, and_low]
attribute [local go_sem] rowB_size stB isRow_at isRow_past rowIn_at rowIn_past setRow_at setRow_past
set_option maxRecDepth 100000 in
set_option maxHeartbeats 1000000 in
theorem plus_any (f : Nat → Int) (m A : Nat) (ng : Bool) (w : World) (hm : m < 18446744073709551616) (hA : A / 16 + 4 < 280) (hf : ∀ j, -1152921504606846976 ≤ f j ∧ f j ≤ 1152921504606846976) :
    Calls Try.prog 60 #[.agg (rowB f), .int .u64 (m : Int), .int .i64 ((A : Int) - 2200), .bool ng] w fun e w' => e = .returned (.agg (rowB (plF f (A / 16) (m * 2 ^ (A % 16) % 18446744073709551616) (hiF m (A % 16)) ng))) ∧ Below w.heap.size w w' := by
  obtain ⟨hz, hi⟩ := zero_of_info info62
  clear hi
  obtain ⟨k, hk⟩ : ∃ k, A / 16 = k := ⟨_, rfl⟩
  obtain ⟨s, hs⟩ : ∃ s, A % 16 = s := ⟨_, rfl⟩
  rw [hk, hs]
  rw [hk] at hA
  have a1 : (A : Int) - 2200 - -2200 = (A : Int) := by omega
  have a2 : (A : Int) / 16 = (k : Int) := by omega
  have a3 : (A : Int) % 16 = (s : Int) := by omega
  have a4 : (s : Int) < 16 := by omega
  have a5 : (k : Int) < 276 := by omega
  obtain ⟨L, hL⟩ : ∃ L, m * 2 ^ s % 18446744073709551616 = L := ⟨_, rfl⟩
  have hLl : L < 18446744073709551616 := by omega
  have a6 : IntKind.u64.wrap ((m : Int) * 2 ^ s) = (L : Int) := by
    rw [IntKind.wrap_u64, ← hL, show (m : Int) * 2 ^ s = ((m * 2 ^ s : Nat) : Int) by rw [Int.natCast_mul, pow_int]]
    omega
  obtain ⟨H, hH⟩ : ∃ H, hiF m s = H := ⟨_, rfl⟩
  rw [hL, hH]
  have hHl : H < 65536 := by
    rw [← hH]
    unfold hiF
    split
    · omega
    · have h1 : 2 ^ 64 ≤ 2 ^ (64 - s) * 65536 := by
        rw [show (65536 : Nat) = 2 ^ 16 from rfl, ← Nat.pow_add]
        exact Nat.pow_le_pow_right (by omega) (by omega)
      refine Nat.div_lt_of_lt_mul ?_
      rw [show (2 : Nat) ^ 64 = 18446744073709551616 from rfl] at h1
      omega
  have d0 : bits .and .u64 (L : Int) 65535 = ((dgt L 0 : Nat) : Int) := by rw [and_ffff _ hLl]; unfold dgt; rw [Nat.pow_zero, Nat.div_one]
  have d1 : bits .and .u64 ((L : Int) / 65536) 65535 = ((dgt L 1 : Nat) : Int) := by rw [show (L : Int) / 65536 = ((L / 65536 : Nat) : Int) by omega, and_ffff _ (by omega)]; unfold dgt; rw [Nat.pow_one]
  have d2 : bits .and .u64 ((L : Int) / 4294967296) 65535 = ((dgt L 2 : Nat) : Int) := by rw [show (L : Int) / 4294967296 = ((L / 4294967296 : Nat) : Int) by omega, and_ffff _ (by omega)]; rfl
  have d3 : bits .and .u64 ((L : Int) / 281474976710656) 65535 = ((dgt L 3 : Nat) : Int) := by rw [show (L : Int) / 281474976710656 = ((L / 281474976710656 : Nat) : Int) by omega, and_ffff _ (by omega)]; rfl
  have k63 : ∀ i, i < 4 → ∀ w', Calls Try.prog 96 #[.agg (rowB (plW f k L ng i)), .int .i64 ((k + i : Nat) : Int), .int .i64 ((dgt L i : Nat) : Int), .bool ng] w' fun e w'' => e = .returned (.agg (rowB (plW f k L ng (i + 1)))) ∧ Below w'.heap.size w' w'' := fun i hi w' => by
    have h1 := plW_far f k L ng i (k + i) (Nat.le_refl _)
    have h2 := hf (k + i)
    have h3 := dgt_lt L i
    exact digit_any (plW f k L ng i) (k + i) (dgt L i : Nat) ng w' (by omega) (by omega) (by omega) (by omega) (by omega)
  have k63e : ∀ w', Calls Try.prog 96 #[.agg (rowB (plW f k L ng 4)), .int .i64 ((k : Int) + 4), .int .i64 (H : Int), .bool ng] w' fun e w'' => e = .returned (.agg (rowB (plF f k L H ng))) ∧ Below w'.heap.size w' w'' := fun w' => by
    have h1 := plW_far f k L ng 4 (k + 4) (Nat.le_refl _)
    have h2 := hf (k + 4)
    have := digit_any (plW f k L ng 4) (k + 4) (H : Nat) ng w' (by omega) (by omega) (by omega) (by omega) (by omega)
    rw [h1] at this
    exact this
  have q0 := k63 0 (by omega)
  have q1 := k63 1 (by omega)
  have q2 := k63 2 (by omega)
  have q3 := k63 3 (by omega)
  have l0 := dgt_lt L 0
  have l1 := dgt_lt L 1
  have l2 := dgt_lt L 2
  have l3 := dgt_lt L 3
  generalize dgt L 0 = D0 at d0 q0 l0
  generalize dgt L 1 = D1 at d1 q1 l1
  generalize dgt L 2 = D2 at d2 q2 l2
  generalize dgt L 3 = D3 at d3 q3 l3
  have P0 : Hid (plW f k L ng 0 = f) := rfl
  replace q0 : Hid (∀ w', Calls Try.prog 96 #[.agg (rowB (plW f k L ng 0)), .int .i64 (k : Int), .int .i64 (D0 : Int), .bool ng] w' fun e w'' => e = .returned (.agg (rowB (plW f k L ng 1))) ∧ Below w'.heap.size w' w'') := q0
  replace q1 : Hid (∀ w', Calls Try.prog 96 #[.agg (rowB (plW f k L ng 1)), .int .i64 ((k : Int) + 1), .int .i64 (D1 : Int), .bool ng] w' fun e w'' => e = .returned (.agg (rowB (plW f k L ng 2))) ∧ Below w'.heap.size w' w'') := q1
  replace q2 : Hid (∀ w', Calls Try.prog 96 #[.agg (rowB (plW f k L ng 2)), .int .i64 ((k : Int) + 2), .int .i64 (D2 : Int), .bool ng] w' fun e w'' => e = .returned (.agg (rowB (plW f k L ng 3))) ∧ Below w'.heap.size w' w'') := q2
  replace q3 : Hid (∀ w', Calls Try.prog 96 #[.agg (rowB (plW f k L ng 3)), .int .i64 ((k : Int) + 3), .int .i64 (D3 : Int), .bool ng] w' fun e w'' => e = .returned (.agg (rowB (plW f k L ng 4))) ∧ Below w'.heap.size w' w'') := q3
  replace k63e : Hid (∀ w', Calls Try.prog 96 #[.agg (rowB (plW f k L ng 4)), .int .i64 ((k : Int) + 4), .int .i64 (H : Int), .bool ng] w' fun e w'' => e = .returned (.agg (rowB (plF f k L H ng))) ∧ Below w'.heap.size w' w'') := k63e
  have BK : Hid (Bk ((w.alloc (.cells (rowB f) 75)).alloc (.cells (rowB fun _ => 0) 75)) w.heap.size f) := (Bk.new w f).below ((Below.refl _ _).alloc (Nat.le_refl _) _)
  have BR : Hid (Bk ((w.alloc (.cells (rowB f) 75)).alloc (.cells (rowB fun _ => 0) 75)) (w.heap.size + 1) fun _ => 0) := by have := Bk.new (w.alloc (.cells (rowB f) 75)) fun _ => 0; rw [World.size_alloc] at this; exact this
  have BB : Hid (Below w.heap.size w ((w.alloc (.cells (rowB f) 75)).alloc (.cells (rowB fun _ => 0) 75))) := ((Below.refl _ _).alloc (Nat.le_refl _) _).alloc (by simp) _
  clear k63 hf hk hs hL hA
  generalize (A : Int) - 2200 = e0 at *
  generalize plF f k L H ng = FF at *
  generalize plW f k L ng = PP at *
  by_cases c : s = 0
  · subst c
    have hH0 : H = 0 := hH.symm.trans (if_pos rfl)
    subst hH0
    clear hH
    rw [Int.pow_zero, Int.mul_one] at a6
    go_enter Try.func60, Try.ntmps60
    go_wp2_with fail
    go_loopw [14] (fun x wr => ∃ i : Nat, i ≤ 4 ∧ x = .int .i64 (i : Int) ∧ Hid (Bk wr w.heap.size (PP i)) ∧ Hid (Bk wr (w.heap.size + 1) fun _ => 0) ∧ Hid (Below w.heap.size w wr)) (fun x _ => 4 - (intOf x).toNat)
    case atStart => exact ⟨0, by omega, rfl, by rw [P0.out]; exact BK.out, BR.out, BB.out⟩
    case round =>
      clear BK BR BB P0 hz
      obtain ⟨i, hi, rfl, bk, br, bb⟩ := hrel
      rcases (show i = 0 ∨ i = 1 ∨ i = 2 ∨ i = 3 ∨ i = 4 by omega) with rfl | rfl | rfl | rfl | rfl
      · have hR := bk.out.isRow
        go_wp2_with (refine wpList_ld rfl 75 _ rfl w.heap.size rfl 280 Try.underlying75 rfl (by kernel_rfl) (rowB (PP 0)) bk.out.isRow bk.out.rowIn ?_)
        refine (q0.out _).mono ?_
        rintro e w1 ⟨rfl, b1⟩
        have bk1 := bk.out.below b1
        have br1 := br.out.below b1
        have bb1 := bb.out.trans (b1.mono bb.out.size)
        have hR1 := bk1.isRow
        have bk2 : Hid (Bk (w1.setRow w.heap.size (rowB (PP 1))) w.heap.size (PP 1)) := bk1.set _
        have br2 : Hid (Bk (w1.setRow w.heap.size (rowB (PP 1))) (w.heap.size + 1) fun _ => 0) := br1.other (by omega) _
        have bb2 : Hid (Below w.heap.size w (w1.setRow w.heap.size (rowB (PP 1)))) := below_setRow bb1 (Nat.le_refl _) _
        clear b1 bk1 br1 bb1 hR
        go_wp2
        exact ⟨⟨1, by omega, rfl, bk2.out, br2.out, bb2.out⟩, by simp [intOf]⟩
      · have hR := bk.out.isRow
        go_wp2_with (refine wpList_ld rfl 75 _ rfl w.heap.size rfl 280 Try.underlying75 rfl (by kernel_rfl) (rowB (PP 1)) bk.out.isRow bk.out.rowIn ?_)
        refine (q1.out _).mono ?_
        rintro e w1 ⟨rfl, b1⟩
        have bk1 := bk.out.below b1
        have br1 := br.out.below b1
        have bb1 := bb.out.trans (b1.mono bb.out.size)
        have hR1 := bk1.isRow
        have bk2 : Hid (Bk (w1.setRow w.heap.size (rowB (PP 2))) w.heap.size (PP 2)) := bk1.set _
        have br2 : Hid (Bk (w1.setRow w.heap.size (rowB (PP 2))) (w.heap.size + 1) fun _ => 0) := br1.other (by omega) _
        have bb2 : Hid (Below w.heap.size w (w1.setRow w.heap.size (rowB (PP 2)))) := below_setRow bb1 (Nat.le_refl _) _
        clear b1 bk1 br1 bb1 hR
        go_wp2
        exact ⟨⟨2, by omega, rfl, bk2.out, br2.out, bb2.out⟩, by simp [intOf]⟩
      · have hR := bk.out.isRow
        go_wp2_with (refine wpList_ld rfl 75 _ rfl w.heap.size rfl 280 Try.underlying75 rfl (by kernel_rfl) (rowB (PP 2)) bk.out.isRow bk.out.rowIn ?_)
        refine (q2.out _).mono ?_
        rintro e w1 ⟨rfl, b1⟩
        have bk1 := bk.out.below b1
        have br1 := br.out.below b1
        have bb1 := bb.out.trans (b1.mono bb.out.size)
        have hR1 := bk1.isRow
        have bk2 : Hid (Bk (w1.setRow w.heap.size (rowB (PP 3))) w.heap.size (PP 3)) := bk1.set _
        have br2 : Hid (Bk (w1.setRow w.heap.size (rowB (PP 3))) (w.heap.size + 1) fun _ => 0) := br1.other (by omega) _
        have bb2 : Hid (Below w.heap.size w (w1.setRow w.heap.size (rowB (PP 3)))) := below_setRow bb1 (Nat.le_refl _) _
        clear b1 bk1 br1 bb1 hR
        go_wp2
        exact ⟨⟨3, by omega, rfl, bk2.out, br2.out, bb2.out⟩, by simp [intOf]⟩
      · have hR := bk.out.isRow
        go_wp2_with (refine wpList_ld rfl 75 _ rfl w.heap.size rfl 280 Try.underlying75 rfl (by kernel_rfl) (rowB (PP 3)) bk.out.isRow bk.out.rowIn ?_)
        refine (q3.out _).mono ?_
        rintro e w1 ⟨rfl, b1⟩
        have bk1 := bk.out.below b1
        have br1 := br.out.below b1
        have bb1 := bb.out.trans (b1.mono bb.out.size)
        have hR1 := bk1.isRow
        have bk2 : Hid (Bk (w1.setRow w.heap.size (rowB (PP 4))) w.heap.size (PP 4)) := bk1.set _
        have br2 : Hid (Bk (w1.setRow w.heap.size (rowB (PP 4))) (w.heap.size + 1) fun _ => 0) := br1.other (by omega) _
        have bb2 : Hid (Below w.heap.size w (w1.setRow w.heap.size (rowB (PP 4)))) := below_setRow bb1 (Nat.le_refl _) _
        clear b1 bk1 br1 bb1 hR
        go_wp2
        exact ⟨⟨4, by omega, rfl, bk2.out, br2.out, bb2.out⟩, by simp [intOf]⟩
      · go_wp2_with (refine wpList_ld rfl 75 _ rfl w.heap.size rfl 280 Try.underlying75 rfl (by kernel_rfl) (rowB (PP 4)) bk.out.isRow bk.out.rowIn ?_)
        refine (k63e.out _).mono ?_
        rintro e w1 ⟨rfl, b1⟩
        have br1 := br.out.below b1
        have bb1 := bb.out.trans (b1.mono bb.out.size)
        have hR1 := br1.isRow
        have br2 : Hid (Bk (w1.setRow (w.heap.size + 1) (rowB FF)) (w.heap.size + 1) FF) := br1.set _
        have bb2 : Hid (Below w.heap.size w (w1.setRow (w.heap.size + 1) (rowB FF))) := below_setRow bb1 (by omega) _
        clear b1 br1 bb1
        go_wp2
        exact bodyPost_ret (v := .agg (rowB FF)) (results_ld Try.results60 _ _ (w.heap.size + 1) 280 rfl Try.underlying75 rfl (by kernel_rfl) (rowB FF) br2.out.isRow br2.out.rowIn) rfl ⟨rfl, bb2.out⟩
  · have hH1 : (m : Int) / 2 ^ (64 - s) = (H : Int) := by
      rw [← hH]
      unfold hiF
      rw [if_neg c, Int.natCast_ediv, pow_int]
    clear hH
    have c' : (0 : Int) < s := by omega
    go_enter Try.func60, Try.ntmps60
    go_wp2_with fail
    go_loopw [14] (fun x wr => ∃ i : Nat, i ≤ 4 ∧ x = .int .i64 (i : Int) ∧ Hid (Bk wr w.heap.size (PP i)) ∧ Hid (Bk wr (w.heap.size + 1) fun _ => 0) ∧ Hid (Below w.heap.size w wr)) (fun x _ => 4 - (intOf x).toNat)
    case atStart => exact ⟨0, by omega, rfl, by rw [P0.out]; exact BK.out, BR.out, BB.out⟩
    case round =>
      clear BK BR BB P0 hz
      obtain ⟨i, hi, rfl, bk, br, bb⟩ := hrel
      rcases (show i = 0 ∨ i = 1 ∨ i = 2 ∨ i = 3 ∨ i = 4 by omega) with rfl | rfl | rfl | rfl | rfl
      · have hR := bk.out.isRow
        go_wp2_with (refine wpList_ld rfl 75 _ rfl w.heap.size rfl 280 Try.underlying75 rfl (by kernel_rfl) (rowB (PP 0)) bk.out.isRow bk.out.rowIn ?_)
        refine (q0.out _).mono ?_
        rintro e w1 ⟨rfl, b1⟩
        have bk1 := bk.out.below b1
        have br1 := br.out.below b1
        have bb1 := bb.out.trans (b1.mono bb.out.size)
        have hR1 := bk1.isRow
        have bk2 : Hid (Bk (w1.setRow w.heap.size (rowB (PP 1))) w.heap.size (PP 1)) := bk1.set _
        have br2 : Hid (Bk (w1.setRow w.heap.size (rowB (PP 1))) (w.heap.size + 1) fun _ => 0) := br1.other (by omega) _
        have bb2 : Hid (Below w.heap.size w (w1.setRow w.heap.size (rowB (PP 1)))) := below_setRow bb1 (Nat.le_refl _) _
        clear b1 bk1 br1 bb1 hR
        go_wp2
        exact ⟨⟨1, by omega, rfl, bk2.out, br2.out, bb2.out⟩, by simp [intOf]⟩
      · have hR := bk.out.isRow
        go_wp2_with (refine wpList_ld rfl 75 _ rfl w.heap.size rfl 280 Try.underlying75 rfl (by kernel_rfl) (rowB (PP 1)) bk.out.isRow bk.out.rowIn ?_)
        refine (q1.out _).mono ?_
        rintro e w1 ⟨rfl, b1⟩
        have bk1 := bk.out.below b1
        have br1 := br.out.below b1
        have bb1 := bb.out.trans (b1.mono bb.out.size)
        have hR1 := bk1.isRow
        have bk2 : Hid (Bk (w1.setRow w.heap.size (rowB (PP 2))) w.heap.size (PP 2)) := bk1.set _
        have br2 : Hid (Bk (w1.setRow w.heap.size (rowB (PP 2))) (w.heap.size + 1) fun _ => 0) := br1.other (by omega) _
        have bb2 : Hid (Below w.heap.size w (w1.setRow w.heap.size (rowB (PP 2)))) := below_setRow bb1 (Nat.le_refl _) _
        clear b1 bk1 br1 bb1 hR
        go_wp2
        exact ⟨⟨2, by omega, rfl, bk2.out, br2.out, bb2.out⟩, by simp [intOf]⟩
      · have hR := bk.out.isRow
        go_wp2_with (refine wpList_ld rfl 75 _ rfl w.heap.size rfl 280 Try.underlying75 rfl (by kernel_rfl) (rowB (PP 2)) bk.out.isRow bk.out.rowIn ?_)
        refine (q2.out _).mono ?_
        rintro e w1 ⟨rfl, b1⟩
        have bk1 := bk.out.below b1
        have br1 := br.out.below b1
        have bb1 := bb.out.trans (b1.mono bb.out.size)
        have hR1 := bk1.isRow
        have bk2 : Hid (Bk (w1.setRow w.heap.size (rowB (PP 3))) w.heap.size (PP 3)) := bk1.set _
        have br2 : Hid (Bk (w1.setRow w.heap.size (rowB (PP 3))) (w.heap.size + 1) fun _ => 0) := br1.other (by omega) _
        have bb2 : Hid (Below w.heap.size w (w1.setRow w.heap.size (rowB (PP 3)))) := below_setRow bb1 (Nat.le_refl _) _
        clear b1 bk1 br1 bb1 hR
        go_wp2
        exact ⟨⟨3, by omega, rfl, bk2.out, br2.out, bb2.out⟩, by simp [intOf]⟩
      · have hR := bk.out.isRow
        go_wp2_with (refine wpList_ld rfl 75 _ rfl w.heap.size rfl 280 Try.underlying75 rfl (by kernel_rfl) (rowB (PP 3)) bk.out.isRow bk.out.rowIn ?_)
        refine (q3.out _).mono ?_
        rintro e w1 ⟨rfl, b1⟩
        have bk1 := bk.out.below b1
        have br1 := br.out.below b1
        have bb1 := bb.out.trans (b1.mono bb.out.size)
        have hR1 := bk1.isRow
        have bk2 : Hid (Bk (w1.setRow w.heap.size (rowB (PP 4))) w.heap.size (PP 4)) := bk1.set _
        have br2 : Hid (Bk (w1.setRow w.heap.size (rowB (PP 4))) (w.heap.size + 1) fun _ => 0) := br1.other (by omega) _
        have bb2 : Hid (Below w.heap.size w (w1.setRow w.heap.size (rowB (PP 4)))) := below_setRow bb1 (Nat.le_refl _) _
        clear b1 bk1 br1 bb1 hR
        go_wp2
        exact ⟨⟨4, by omega, rfl, bk2.out, br2.out, bb2.out⟩, by simp [intOf]⟩
      · go_wp2_with (refine wpList_ld rfl 75 _ rfl w.heap.size rfl 280 Try.underlying75 rfl (by kernel_rfl) (rowB (PP 4)) bk.out.isRow bk.out.rowIn ?_)
        refine (k63e.out _).mono ?_
        rintro e w1 ⟨rfl, b1⟩
        have br1 := br.out.below b1
        have bb1 := bb.out.trans (b1.mono bb.out.size)
        have hR1 := br1.isRow
        have br2 : Hid (Bk (w1.setRow (w.heap.size + 1) (rowB FF)) (w.heap.size + 1) FF) := br1.set _
        have bb2 : Hid (Below w.heap.size w (w1.setRow (w.heap.size + 1) (rowB FF))) := below_setRow bb1 (by omega) _
        clear b1 br1 bb1
        go_wp2
        exact bodyPost_ret (v := .agg (rowB FF)) (results_ld Try.results60 _ _ (w.heap.size + 1) 280 rfl Try.underlying75 rfl (by kernel_rfl) (rowB FF) br2.out.isRow br2.out.rowIn) rfl ⟨rfl, bb2.out⟩
end Go.Proofs.Ytdhfkdopcphjlab
