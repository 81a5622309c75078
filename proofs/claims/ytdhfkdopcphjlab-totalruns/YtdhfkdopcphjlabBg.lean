/-
  The document's great number: 280 digits handed by value. The contracts of digit and bit. Conditions: the digit's place is one of the 280, and nothing runs over 64 bits.
-/
import Derived.Test.YtdhfkdopcphjlabFc
import Derived.Laws.CopyOwn
namespace Go.Proofs.Ytdhfkdopcphjlab
open Go.RowKit
/-- The digits as a row. -/
def rowB (f : Nat → Int) : Array Value := rowOf .i64 280 f
theorem info62 : (Try.prog.info? 75).map (fun i => (i.zero, i.size)) = some (some (.agg (rowB fun _ => 0)), 280) := by kernel_rfl
theorem rowB_get (f : Nat → Int) (i : Nat) (h : i < 280) : (rowB f)[i]? = some (.int .i64 (f i)) := rowOf_get _ _ _ _ h
theorem rowB_size (f : Nat → Int) : (rowB f).size = 280 := rowOf_size _ _ _
/-- A digit set anew. -/
def upd (f : Nat → Int) (k : Nat) (v : Int) : Nat → Int := fun j => if j = k then v else f j
theorem rowB_set (f : Nat → Int) (k : Nat) (v : Int) : (rowB f).setIfInBounds k (.int .i64 v) = rowB (upd f k v) := rowOf_set _ _ _ _ _
theorem cell_newB (w : World) (f : Nat → Int) (k : Nat) (h : k < 280) : (w.alloc (.cells (rowB f) 75)).cell? ⟨w.heap.size, k, none⟩ = some (.int .i64 (f k)) := by
  rw [World.cell?_alloc_at _ _ _ _ rfl]
  exact rowB_get f k h
attribute [local go_sem] rowOf_size rowB_size isRow_at isRow_past rowIn_at rowIn_past setRow_at setRow_past
attribute [local go_sem] st_at
theorem stB (f : Nat → Int) (w : World) (m : Nat) (h : isRow w m 280) : (storeCells ⟨m, 0, none⟩ (rowB f).toList 0).run Try.prog w = .ok () (w.setRow m (rowB f)) := st_at w m 280 .i64 _ h
attribute [local go_sem] stB
attribute [irreducible] rowB
theorem rowB_elem (f : Nat → Int) (i : Nat) (h : i < 280) (h' : i < (rowB f).size) : (rowB f)[i]'h' = .int .i64 (f i) := by
  have := rowB_get f i h
  rw [Array.getElem?_eq_getElem h'] at this
  exact Option.some.inj this
set_option maxRecDepth 100000 in
set_option maxHeartbeats 400000 in
theorem digit_any (f : Nat → Int) (k : Nat) (d : Int) (ng : Bool) (w : World) (hk : k < 280) (hf1 : -4611686018427387904 ≤ f k) (hf2 : f k ≤ 4611686018427387904) (hd1 : 0 ≤ d) (hd2 : d ≤ 65536) :
    Calls Try.prog 96 #[.agg (rowB f), .int .i64 (k : Int), .int .i64 d, .bool ng] w fun e w' => e = .returned (.agg (rowB (upd f k (f k + if ng = true then -d else d)))) ∧ Below w.heap.size w w' := by
  obtain ⟨hz, hi⟩ := zero_of_info info62
  clear hi
  have hg : ∀ h : k < (rowB f).size, (rowB f)[k]'h = .int .i64 (f k) := fun h => rowB_elem f k hk h
  have k2 : (k : Int) < 280 := by omega
  generalize hF : f k = F at *
  cases ng
  · simp only [Bool.false_eq_true, if_false]
    have hs := rowB_set f k (F + d)
    go_enter Try.func96, Try.ntmps96
    go_wp2_with (refine wpList_ld rfl 75 _ rfl w.heap.size rfl 280 Try.underlying75 rfl (by kernel_rfl) (rowB (upd f k (F + d))) ?_ ?_ ?_)
    case refine_1 => simp [isRow_at, isRow_past, rowB_size]
    case refine_2 => simp [rowIn_at, rowIn_past]
    refine bodyPost_ret (v := .agg (rowB (upd f k (F + d)))) (results_ld Try.results96 _ _ (w.heap.size + 1) 280 rfl Try.underlying75 rfl (by kernel_rfl) (rowB (upd f k (F + d))) ?_ ?_) rfl ⟨rfl, ((Below.refl _ _).alloc (Nat.le_refl _) _).alloc (by simp) _⟩
    · simp [isRow_at, rowB_size]
    · simp [rowIn_at]
  · simp only [if_true]
    have hs := rowB_set f k (F + -d)
    go_enter Try.func96, Try.ntmps96
    go_wp2_with (refine wpList_ld rfl 75 _ rfl w.heap.size rfl 280 Try.underlying75 rfl (by kernel_rfl) (rowB (upd f k (F + -d))) ?_ ?_ ?_)
    case refine_1 => simp [isRow_at, isRow_past, rowB_size]
    case refine_2 => simp [rowIn_at, rowIn_past]
    refine bodyPost_ret (v := .agg (rowB (upd f k (F + -d)))) (results_ld Try.results96 _ _ (w.heap.size + 1) 280 rfl Try.underlying75 rfl (by kernel_rfl) (rowB (upd f k (F + -d))) ?_ ?_) rfl ⟨rfl, ((Below.refl _ _).alloc (Nat.le_refl _) _).alloc (by simp) _⟩
    · simp [isRow_at, rowB_size]
    · simp [rowIn_at]
theorem i64_and1 (n : Int) : bits .and .i64 n 1 = n % 2 := by
  have h1 : (BitVec.ofInt 64 1).toNat = 2 ^ 1 - 1 := by decide
  have key : (BitVec.ofInt 64 n &&& BitVec.ofInt 64 1).toNat = (n % ((2 ^ 64 : Nat) : Int)).toNat % 2 ^ 1 := by
    rw [BitVec.toNat_and, BitVec.toNat_ofInt, h1, Nat.and_two_pow_sub_one_eq_mod]
  show IntKind.i64.wrap ((BitVec.ofInt 64 n &&& BitVec.ofInt 64 1).toNat : Nat) = n % 2
  rw [key, IntKind.wrap_i64]
  omega
theorem i64_and16 (n : Int) : bits .and .i64 n 65535 = n % 65536 := by
  have h1 : (BitVec.ofInt 64 65535).toNat = 2 ^ 16 - 1 := by decide
  have key : (BitVec.ofInt 64 n &&& BitVec.ofInt 64 65535).toNat = (n % ((2 ^ 64 : Nat) : Int)).toNat % 2 ^ 16 := by
    rw [BitVec.toNat_and, BitVec.toNat_ofInt, h1, Nat.and_two_pow_sub_one_eq_mod]
  show IntKind.i64.wrap ((BitVec.ofInt 64 n &&& BitVec.ofInt 64 65535).toNat : Nat) = n % 65536
  rw [key, IntKind.wrap_i64]
  omega
attribute [local go_sem] rowB_size
set_option maxRecDepth 100000 in
set_option maxHeartbeats 400000 in
theorem bit_any (D : Nat → Nat) (k : Nat) (w : World) (hk : k < 4480) :
    Calls Try.prog 117 #[.agg (rowB fun i => ((D i : Nat) : Int)), .int .i64 (k : Int)] w fun e w' => e = .returned (.int .i64 ((D (k / 16) / 2 ^ (k % 16) % 2 : Nat) : Int)) ∧ Below w.heap.size w w' := by
  have h1 : (k : Int) < 4480 := by omega
  obtain ⟨q, hq⟩ : ∃ q, k / 16 = q := ⟨_, rfl⟩
  obtain ⟨r, hr⟩ : ∃ r, k % 16 = r := ⟨_, rfl⟩
  rw [hq, hr]
  have hq1 : (k : Int) / 16 = (q : Int) := by omega
  have hr1 : (k : Int) % 16 = (r : Int) := by omega
  have hq2 : (q : Int) < 280 := by omega
  have hr2 : (r : Int) < 16 := by omega
  have hk0 : decide ((k : Int) < 0) = false := by simp
  have hk1 : decide ((4480 : Int) ≤ k) = false := by simp; omega
  obtain ⟨d, hd⟩ : ∃ d, D q = d := ⟨_, rfl⟩
  have hg : (rowB fun i => ((D i : Nat) : Int))[q]? = some (.int .i64 (d : Int)) := by rw [← hd]; exact rowB_get (fun i => ((D i : Nat) : Int)) q (by omega)
  have hb : bits .and .i64 ((d : Int) / 2 ^ r) 1 = ((d / 2 ^ r % 2 : Nat) : Int) := by rw [i64_and1]; push_cast; rfl
  rw [hd]
  clear hq hr hd
  generalize (rowB fun i => ((D i : Nat) : Int)) = B at *
  go_enter Try.func117, Try.ntmps117
  go_wp2_with fail
  go_ret
  exact ⟨rfl, (Below.refl _ _).alloc (Nat.le_refl _) _⟩
/-- m times 2^e as a float's bits. -/
def scB (m : Nat) (e : Int) : Nat :=
  if 9007199254740992 ≤ m then (if 2047 ≤ e + 1076 then 9218868437227405312 else (e + 1076).toNat * 4503599627370496 + (m / 2 - 4503599627370496))
  else if m < 4503599627370496 then m else (if 2047 ≤ e + 1075 then 9218868437227405312 else (e + 1075).toNat * 4503599627370496 + (m - 4503599627370496))
theorem or_52 (x y : Nat) (hx : x < 4096) (hy : y < 4503599627370496) : bits .or .u64 ((x * 4503599627370496 : Nat) : Int) (y : Int) = ((x * 4503599627370496 + y : Nat) : Int) := by
  rw [u64_or_nat _ _ (by omega) (by omega)]
  congr 1
  exact nat_join 52 _ _ (by rw [show (2 : Nat) ^ 52 = 4503599627370496 from rfl]; omega) (by rw [show (2 : Nat) ^ 52 = 4503599627370496 from rfl]; exact hy)
set_option maxRecDepth 100000 in
set_option maxHeartbeats 400000 in
theorem scaled_any (m : Nat) (e : Int) (w : World) (hm : m ≤ 9007199254740992) (he1 : -1074 ≤ e) (he2 : e ≤ 100000) : Calls Try.prog 118 #[.int .i64 (m : Int), .int .i64 e] w fun r w' => r = .returned (.float .f64 (scB m e)) ∧ w' = w := by
  have x10 := ext10
  by_cases c1 : 9007199254740992 ≤ m
  · have em : m = 9007199254740992 := by omega
    subst em
    by_cases c2 : 2047 ≤ e + 1076
    · have hs : scB 9007199254740992 e = 9218868437227405312 := by unfold scB; rw [if_pos (Nat.le_refl _), if_pos c2]
      have c3 : (2047 : Int) ≤ e + 1 + 1075 := by omega
      rw [hs]
      go_enter Try.func118, Try.ntmps118
      go_wp2
      go_ret
      exact ⟨rfl, rfl⟩
    · obtain ⟨x, hx⟩ : ∃ x : Nat, e + 1 + 1075 = (x : Int) := ⟨(e + 1076).toNat, by omega⟩
      have hs : scB 9007199254740992 e = x * 4503599627370496 := by unfold scB; rw [if_pos (Nat.le_refl _), if_neg c2, show (e + 1076).toNat = x by omega]; omega
      have c3 : (x : Int) < 2047 := by omega
      have ho : bits .or .u64 ((x * 4503599627370496 : Nat) : Int) 0 = ((x * 4503599627370496 : Nat) : Int) := by
        have := or_52 x 0 (by omega) (by omega)
        rw [Nat.add_zero] at this
        exact this
      rw [Int.natCast_mul, show ((4503599627370496 : Nat) : Int) = 4503599627370496 from rfl] at ho
      rw [hs]
      have hA : (((x * 4503599627370496 : Nat) : Int)).toNat = x * 4503599627370496 := Int.toNat_natCast _
      rw [Int.natCast_mul, show ((4503599627370496 : Nat) : Int) = 4503599627370496 from rfl] at hA
      generalize x * 4503599627370496 = A at *
      clear hm c1 c2
      go_enter Try.func118, Try.ntmps118
      go_wp2
      go_ret
      exact ⟨rfl, rfl⟩
  · by_cases c2 : m < 4503599627370496
    · have hs : scB m e = m := by unfold scB; rw [if_neg c1, if_pos c2]
      have c3 : ((m : Int)) < 4503599627370496 := by omega
      rw [hs]
      have n1 : decide ((9007199254740992 : Int) ≤ m) = false := by simp; omega
      have n2 : decide ((m : Int) < 4503599627370496) = true := by simp; omega
      clear hm c1 c2 hs
      go_enter Try.func118, Try.ntmps118
      go_wp2
      go_ret
      exact ⟨rfl, rfl⟩
    · obtain ⟨y, hy⟩ : ∃ y : Nat, m = 4503599627370496 + y := ⟨m - 4503599627370496, by omega⟩
      subst hy
      by_cases c3 : 2047 ≤ e + 1075
      · have hs : scB (4503599627370496 + y) e = 9218868437227405312 := by unfold scB; rw [if_neg c1, if_neg c2, if_pos c3]
        have n1 : decide ((9007199254740992 : Int) ≤ ((4503599627370496 + y : Nat) : Int)) = false := by simp only [decide_eq_false_iff_not]; omega
        have n2 : decide (((4503599627370496 + y : Nat) : Int) < 4503599627370496) = false := by simp only [decide_eq_false_iff_not]; omega
        generalize (4503599627370496 + y : Nat) = M at *
        rw [hs]
        clear hm c1 c2 hs
        go_enter Try.func118, Try.ntmps118
        go_wp2
        go_ret
        exact ⟨rfl, rfl⟩
      · obtain ⟨x, hx⟩ : ∃ x : Nat, e + 1075 = (x : Int) := ⟨(e + 1075).toNat, by omega⟩
        have hs : scB (4503599627370496 + y) e = x * 4503599627370496 + y := by unfold scB; rw [if_neg c1, if_neg c2, if_neg c3, show (e + 1075).toNat = x by omega]; omega
        have c6 : (x : Int) < 2047 := by omega
        have ho := or_52 x y (by omega) (by omega)
        have c7 : IntKind.i64.wrap ((((4503599627370496 + y : Nat) : Int)) - 4503599627370496) = y := by rw [IntKind.wrap_i64]; omega
        have c9 : IntKind.u64.wrap (y : Int) = y := by rw [IntKind.wrap_u64]; omega
        have c10 : IntKind.u64.wrap ((x : Int) * 4503599627370496) = (x : Int) * 4503599627370496 := by rw [IntKind.wrap_u64]; omega
        have n1 : decide ((9007199254740992 : Int) ≤ ((4503599627370496 + y : Nat) : Int)) = false := by simp only [decide_eq_false_iff_not]; omega
        have n2 : decide (((4503599627370496 + y : Nat) : Int) < 4503599627370496) = false := by simp only [decide_eq_false_iff_not]; omega
        generalize hM : (4503599627370496 + y : Nat) = M at *
        rw [hs]
        have ho' : bits .or .u64 ((x : Int) * 4503599627370496) (y : Int) = ((x * 4503599627370496 + y : Nat) : Int) := by rw [← ho, Int.natCast_mul, show ((4503599627370496 : Nat) : Int) = 4503599627370496 from rfl]
        clear ho hm c1 c2 hs hM
        generalize (M : Int) = MI at *
        generalize x * 4503599627370496 + y = A at *
        go_enter Try.func118, Try.ntmps118
        go_wp2
        go_ret
        exact ⟨rfl, rfl⟩
/-- A finite float's whole number and its place. -/
def pmB (b : Nat) : Nat := if b / 4503599627370496 % 2048 = 0 then b % 4503599627370496 else 4503599627370496 + b % 4503599627370496
def peB (b : Nat) : Int := if b / 4503599627370496 % 2048 = 0 then -1074 else ((b / 4503599627370496 % 2048 : Nat) : Int) - 1075
def sgB (b : Nat) : Bool := decide (9223372036854775808 ≤ b)
set_option maxRecDepth 100000 in
set_option maxHeartbeats 400000 in
theorem rparts_any (b : Nat) (w : World) (hb : b < 18446744073709551616) : Calls Try.prog 59 #[.float .f64 b] w fun r w' => r = .returned (.tuple #[.int .u64 ((pmB b : Nat) : Int), .int .i64 (peB b), .bool (sgB b)]) ∧ w' = w := by
  have x20 := ext20
  obtain ⟨E, hE⟩ : ∃ E, b / 4503599627370496 % 2048 = E := ⟨_, rfl⟩
  obtain ⟨f, hf⟩ : ∃ f, b % 4503599627370496 = f := ⟨_, rfl⟩
  have a1 : bits .and .u64 ((b : Int) / 4503599627370496) 2047 = (E : Int) := by
    rw [show (b : Int) / 4503599627370496 = ((b / 4503599627370496 : Nat) : Int) by omega, show (2047 : Int) = ((2047 : Nat) : Int) from rfl, u64_and_nat _ _ (by omega) (by decide), show (2047 : Nat) = 2 ^ 11 - 1 from rfl, and_low, ← hE]
  have a2 : bits .and .u64 (b : Int) 4503599627370495 = (f : Int) := by
    rw [show (4503599627370495 : Int) = ((4503599627370495 : Nat) : Int) from rfl, u64_and_nat _ _ hb (by decide), show (4503599627370495 : Nat) = 2 ^ 52 - 1 from rfl, and_low, ← hf]
  have a3 : bits .or .u64 (f : Int) 4503599627370496 = ((4503599627370496 + f : Nat) : Int) := by
    rw [show (4503599627370496 : Int) = ((4503599627370496 : Nat) : Int) from rfl, u64_or_nat _ _ (by omega) (by decide), Nat.or_comm, nat_join 52 _ _ (by decide) (by rw [show (2 : Nat) ^ 52 = 4503599627370496 from rfl]; omega)]
  have a4 : decide ((b : Int) / 9223372036854775808 = 1) = sgB b := by unfold sgB; rw [decide_eq_decide]; omega
  have a5 : ((b : Int) / 9223372036854775808 == 1) = sgB b := a4
  have h3 : (E : Int) < 2048 := by omega
  unfold pmB peB
  rw [hE, hf]
  clear a4 hf
  generalize sgB b = S at *
  by_cases c : E = 0
  · subst c
    rw [if_pos rfl, if_pos rfl]
    clear hE
    go_enter Try.func59, Try.ntmps59
    go_wp2
    go_ret3
    exact ⟨rfl, rfl⟩
  · rw [if_neg c, if_neg c]
    have c' : ((E : Int) == 0) = false := by simp; omega
    clear hE
    go_enter Try.func59, Try.ntmps59
    go_wp2
    go_ret3
    exact ⟨rfl, rfl⟩
set_option maxRecDepth 100000 in
set_option maxHeartbeats 400000 in
theorem negative_any (b : Nat) (w : World) (hb : b < 18446744073709551616) : Calls Try.prog 58 #[.float .f64 b] w fun r w' => r = .returned (.bool (sgB b)) ∧ w' = w := by
  have x20 := ext20
  have a4 : decide ((b : Int) / 9223372036854775808 = 1) = sgB b := by unfold sgB; rw [decide_eq_decide]; omega
  have a5 : ((b : Int) / 9223372036854775808 == 1) = sgB b := a4
  clear a4
  generalize sgB b = S at *
  go_enter Try.func58, Try.ntmps58
  go_wp2
  go_ret
  exact ⟨rfl, rfl⟩
set_option maxRecDepth 100000 in
set_option maxHeartbeats 400000 in
theorem None_any (w : World) : Calls Try.prog 56 #[] w fun r w' => r = .returned (.float .f64 9218868437227405313) ∧ w' = w := by
  have x10 := ext10
  go_enter Try.func56, Try.ntmps56
  go_wp2
  go_ret
  exact ⟨rfl, rfl⟩
/-- Block b holds these digits. -/
def Bk (w : World) (b : Nat) (f : Nat → Int) : Prop := ∃ t, w.heap[b]? = some (.cells (rowB f) t (0, 0))
theorem Bk.isRow {w : World} {b : Nat} {f : Nat → Int} (h : Bk w b f) : isRow w b 280 := by obtain ⟨t, h⟩ := h; exact ⟨_, t, h, rowB_size f⟩
theorem Bk.rowIn {w : World} {b : Nat} {f : Nat → Int} (h : Bk w b f) : rowIn w b = rowB f := by obtain ⟨t, h⟩ := h; unfold Go.Proofs.Ytdhfkdopcphjlab.rowIn; rw [h]
theorem Bk.set {w : World} {b : Nat} {f : Nat → Int} (h : Bk w b f) (g : Nat → Int) : Bk (w.setRow b (rowB g)) b g := by obtain ⟨t, h⟩ := h; exact ⟨t, setRow_heap w b _ _ t _ h⟩
theorem Bk.other {w : World} {b c : Nat} {f : Nat → Int} (h : Bk w c f) (hne : c ≠ b) (r : Array Value) : Bk (w.setRow b r) c f := by obtain ⟨t, h⟩ := h; exact ⟨t, (setRow_other w b c r hne).trans h⟩
theorem Bk.lt {w : World} {b : Nat} {f : Nat → Int} (h : Bk w b f) : b < w.heap.size := by obtain ⟨t, h⟩ := h; exact (Array.getElem?_eq_some_iff.1 h).1
theorem Bk.below {w w' : World} {b : Nat} {f : Nat → Int} (h : Bk w b f) (hb : Below w.heap.size w w') : Bk w' b f := by have hl := h.lt; obtain ⟨t, h⟩ := h; exact ⟨t, (hb.block _ hl).trans h⟩
theorem Bk.new (w : World) (f : Nat → Int) : Bk (w.alloc (.cells (rowB f) 75)) w.heap.size f := ⟨_, heap_alloc_last _ _⟩
/-- A digit of 16 bits. -/
def dgt (L i : Nat) : Nat := L / 65536 ^ i % 65536
theorem dgt_lt (L i : Nat) : dgt L i < 65536 := Nat.mod_lt _ (by decide)
def sgd (ng : Bool) (d : Int) : Int := if ng = true then -d else d
/-- The digits with the first i of the four more. -/
def plW (f : Nat → Int) (k L : Nat) (ng : Bool) : Nat → Nat → Int
  | 0 => f
  | i + 1 => upd (plW f k L ng i) (k + i) (plW f k L ng i (k + i) + sgd ng (dgt L i : Nat))
theorem plW_far (f : Nat → Int) (k L : Nat) (ng : Bool) : ∀ i j, k + i ≤ j → plW f k L ng i j = f j
  | 0, _, _ => rfl
  | i + 1, j, h => by
    show upd _ _ _ j = _
    unfold upd
    rw [if_neg (by omega)]
    exact plW_far f k L ng i j (by omega)
/-- All five. -/
def plF (f : Nat → Int) (k L H : Nat) (ng : Bool) : Nat → Int := upd (plW f k L ng 4) (k + 4) (f (k + 4) + sgd ng (H : Nat))
/-- What is left above of m times 2^s. -/
def hiF (m s : Nat) : Nat := if s = 0 then 0 else m / 2 ^ (64 - s)
theorem and_ffff (x : Nat) (h : x < 18446744073709551616) : bits .and .u64 (x : Int) 65535 = ((x % 65536 : Nat) : Int) := by
  rw [show (65535 : Int) = ((65535 : Nat) : Int) from rfl, u64_and_nat _ _ h (by decide), show (65535 : Nat) = 2 ^ 16 - 1 from rfl, and_low]
attribute [local go_sem] rowB_size stB isRow_at isRow_past rowIn_at rowIn_past setRow_at setRow_past
set_option maxRecDepth 100000 in
set_option maxHeartbeats 1000000 in
theorem plus_any (f : Nat → Int) (m A : Nat) (ng : Bool) (w : World) (hm : m < 18446744073709551616) (hA : A / 16 + 4 < 280) (hf : ∀ j, -1152921504606846976 ≤ f j ∧ f j ≤ 1152921504606846976) :
    Calls Try.prog 60 #[.agg (rowB f), .int .u64 (m : Int), .int .i64 ((A : Int) - 2200), .bool ng] w fun e w' => e = .returned (.agg (rowB (plF f (A / 16) (m * 2 ^ (A % 16) % 18446744073709551616) (hiF m (A % 16)) ng))) ∧ Below w.heap.size w w' := by
  obtain ⟨hz, hi⟩ := zero_of_info info62
  clear hi
  obtain ⟨k, hk⟩ : ∃ k, A / 16 = k := ⟨_, rfl⟩
  obtain ⟨s, hs⟩ : ∃ s, A % 16 = s := ⟨_, rfl⟩
  rw [hk, hs]
  rw [hk] at hA
  have a1 : (A : Int) - 2200 - -2200 = (A : Int) := by omega
  have a2 : (A : Int) / 16 = (k : Int) := by omega
  have a3 : (A : Int) % 16 = (s : Int) := by omega
  have a4 : (s : Int) < 16 := by omega
  have a5 : (k : Int) < 276 := by omega
  obtain ⟨L, hL⟩ : ∃ L, m * 2 ^ s % 18446744073709551616 = L := ⟨_, rfl⟩
  have hLl : L < 18446744073709551616 := by omega
  have a6 : IntKind.u64.wrap ((m : Int) * 2 ^ s) = (L : Int) := by
    rw [IntKind.wrap_u64, ← hL, show (m : Int) * 2 ^ s = ((m * 2 ^ s : Nat) : Int) by rw [Int.natCast_mul, pow_int]]
    omega
  obtain ⟨H, hH⟩ : ∃ H, hiF m s = H := ⟨_, rfl⟩
  rw [hL, hH]
  have hHl : H < 65536 := by
    rw [← hH]
    unfold hiF
    split
    · omega
    · have h1 : 2 ^ 64 ≤ 2 ^ (64 - s) * 65536 := by
        rw [show (65536 : Nat) = 2 ^ 16 from rfl, ← Nat.pow_add]
        exact Nat.pow_le_pow_right (by omega) (by omega)
      refine Nat.div_lt_of_lt_mul ?_
      rw [show (2 : Nat) ^ 64 = 18446744073709551616 from rfl] at h1
      omega
  have d0 : bits .and .u64 (L : Int) 65535 = ((dgt L 0 : Nat) : Int) := by rw [and_ffff _ hLl]; unfold dgt; rw [Nat.pow_zero, Nat.div_one]
  have d1 : bits .and .u64 ((L : Int) / 65536) 65535 = ((dgt L 1 : Nat) : Int) := by rw [show (L : Int) / 65536 = ((L / 65536 : Nat) : Int) by omega, and_ffff _ (by omega)]; unfold dgt; rw [Nat.pow_one]
  have d2 : bits .and .u64 ((L : Int) / 4294967296) 65535 = ((dgt L 2 : Nat) : Int) := by rw [show (L : Int) / 4294967296 = ((L / 4294967296 : Nat) : Int) by omega, and_ffff _ (by omega)]; rfl
  have d3 : bits .and .u64 ((L : Int) / 281474976710656) 65535 = ((dgt L 3 : Nat) : Int) := by rw [show (L : Int) / 281474976710656 = ((L / 281474976710656 : Nat) : Int) by omega, and_ffff _ (by omega)]; rfl
  have k63 : ∀ i, i < 4 → ∀ w', Calls Try.prog 96 #[.agg (rowB (plW f k L ng i)), .int .i64 ((k + i : Nat) : Int), .int .i64 ((dgt L i : Nat) : Int), .bool ng] w' fun e w'' => e = .returned (.agg (rowB (plW f k L ng (i + 1)))) ∧ Below w'.heap.size w' w'' := fun i hi w' => by
    have h1 := plW_far f k L ng i (k + i) (Nat.le_refl _)
    have h2 := hf (k + i)
    have h3 := dgt_lt L i
    exact digit_any (plW f k L ng i) (k + i) (dgt L i : Nat) ng w' (by omega) (by omega) (by omega) (by omega) (by omega)
  have k63e : ∀ w', Calls Try.prog 96 #[.agg (rowB (plW f k L ng 4)), .int .i64 ((k : Int) + 4), .int .i64 (H : Int), .bool ng] w' fun e w'' => e = .returned (.agg (rowB (plF f k L H ng))) ∧ Below w'.heap.size w' w'' := fun w' => by
    have h1 := plW_far f k L ng 4 (k + 4) (Nat.le_refl _)
    have h2 := hf (k + 4)
    have := digit_any (plW f k L ng 4) (k + 4) (H : Nat) ng w' (by omega) (by omega) (by omega) (by omega) (by omega)
    rw [h1] at this
    exact this
  have q0 := k63 0 (by omega)
  have q1 := k63 1 (by omega)
  have q2 := k63 2 (by omega)
  have q3 := k63 3 (by omega)
  have l0 := dgt_lt L 0
  have l1 := dgt_lt L 1
  have l2 := dgt_lt L 2
  have l3 := dgt_lt L 3
  generalize dgt L 0 = D0 at d0 q0 l0
  generalize dgt L 1 = D1 at d1 q1 l1
  generalize dgt L 2 = D2 at d2 q2 l2
  generalize dgt L 3 = D3 at d3 q3 l3
  have P0 : Hid (plW f k L ng 0 = f) := rfl
  replace q0 : Hid (∀ w', Calls Try.prog 96 #[.agg (rowB (plW f k L ng 0)), .int .i64 (k : Int), .int .i64 (D0 : Int), .bool ng] w' fun e w'' => e = .returned (.agg (rowB (plW f k L ng 1))) ∧ Below w'.heap.size w' w'') := q0
  replace q1 : Hid (∀ w', Calls Try.prog 96 #[.agg (rowB (plW f k L ng 1)), .int .i64 ((k : Int) + 1), .int .i64 (D1 : Int), .bool ng] w' fun e w'' => e = .returned (.agg (rowB (plW f k L ng 2))) ∧ Below w'.heap.size w' w'') := q1
  replace q2 : Hid (∀ w', Calls Try.prog 96 #[.agg (rowB (plW f k L ng 2)), .int .i64 ((k : Int) + 2), .int .i64 (D2 : Int), .bool ng] w' fun e w'' => e = .returned (.agg (rowB (plW f k L ng 3))) ∧ Below w'.heap.size w' w'') := q2
  replace q3 : Hid (∀ w', Calls Try.prog 96 #[.agg (rowB (plW f k L ng 3)), .int .i64 ((k : Int) + 3), .int .i64 (D3 : Int), .bool ng] w' fun e w'' => e = .returned (.agg (rowB (plW f k L ng 4))) ∧ Below w'.heap.size w' w'') := q3
  replace k63e : Hid (∀ w', Calls Try.prog 96 #[.agg (rowB (plW f k L ng 4)), .int .i64 ((k : Int) + 4), .int .i64 (H : Int), .bool ng] w' fun e w'' => e = .returned (.agg (rowB (plF f k L H ng))) ∧ Below w'.heap.size w' w'') := k63e
  have BK : Hid (Bk ((w.alloc (.cells (rowB f) 75)).alloc (.cells (rowB fun _ => 0) 75)) w.heap.size f) := (Bk.new w f).below ((Below.refl _ _).alloc (Nat.le_refl _) _)
  have BR : Hid (Bk ((w.alloc (.cells (rowB f) 75)).alloc (.cells (rowB fun _ => 0) 75)) (w.heap.size + 1) fun _ => 0) := by have := Bk.new (w.alloc (.cells (rowB f) 75)) fun _ => 0; rw [World.size_alloc] at this; exact this
  have BB : Hid (Below w.heap.size w ((w.alloc (.cells (rowB f) 75)).alloc (.cells (rowB fun _ => 0) 75))) := ((Below.refl _ _).alloc (Nat.le_refl _) _).alloc (by simp) _
  clear k63 hf hk hs hL hA
  generalize (A : Int) - 2200 = e0 at *
  generalize plF f k L H ng = FF at *
  generalize plW f k L ng = PP at *
  by_cases c : s = 0
  · subst c
    have hH0 : H = 0 := hH.symm.trans (if_pos rfl)
    subst hH0
    clear hH
    rw [Int.pow_zero, Int.mul_one] at a6
    go_enter Try.func60, Try.ntmps60
    go_wp2_with fail
    go_loopw [14] (fun x wr => ∃ i : Nat, i ≤ 4 ∧ x = .int .i64 (i : Int) ∧ Hid (Bk wr w.heap.size (PP i)) ∧ Hid (Bk wr (w.heap.size + 1) fun _ => 0) ∧ Hid (Below w.heap.size w wr)) (fun x _ => 4 - (intOf x).toNat)
    case atStart => exact ⟨0, by omega, rfl, by rw [P0.out]; exact BK.out, BR.out, BB.out⟩
    case round =>
      clear BK BR BB P0 hz
      obtain ⟨i, hi, rfl, bk, br, bb⟩ := hrel
      rcases (show i = 0 ∨ i = 1 ∨ i = 2 ∨ i = 3 ∨ i = 4 by omega) with rfl | rfl | rfl | rfl | rfl
      · have hR := bk.out.isRow
        go_wp2_with (refine wpList_ld rfl 75 _ rfl w.heap.size rfl 280 Try.underlying75 rfl (by kernel_rfl) (rowB (PP 0)) bk.out.isRow bk.out.rowIn ?_)
        refine (q0.out _).mono ?_
        rintro e w1 ⟨rfl, b1⟩
        have bk1 := bk.out.below b1
        have br1 := br.out.below b1
        have bb1 := bb.out.trans (b1.mono bb.out.size)
        have hR1 := bk1.isRow
        have bk2 : Hid (Bk (w1.setRow w.heap.size (rowB (PP 1))) w.heap.size (PP 1)) := bk1.set _
        have br2 : Hid (Bk (w1.setRow w.heap.size (rowB (PP 1))) (w.heap.size + 1) fun _ => 0) := br1.other (by omega) _
        have bb2 : Hid (Below w.heap.size w (w1.setRow w.heap.size (rowB (PP 1)))) := below_setRow bb1 (Nat.le_refl _) _
        clear b1 bk1 br1 bb1 hR
        go_wp2
        exact ⟨⟨1, by omega, rfl, bk2.out, br2.out, bb2.out⟩, by simp [intOf]⟩
      · have hR := bk.out.isRow
        go_wp2_with (refine wpList_ld rfl 75 _ rfl w.heap.size rfl 280 Try.underlying75 rfl (by kernel_rfl) (rowB (PP 1)) bk.out.isRow bk.out.rowIn ?_)
        refine (q1.out _).mono ?_
        rintro e w1 ⟨rfl, b1⟩
        have bk1 := bk.out.below b1
        have br1 := br.out.below b1
        have bb1 := bb.out.trans (b1.mono bb.out.size)
        have hR1 := bk1.isRow
        have bk2 : Hid (Bk (w1.setRow w.heap.size (rowB (PP 2))) w.heap.size (PP 2)) := bk1.set _
        have br2 : Hid (Bk (w1.setRow w.heap.size (rowB (PP 2))) (w.heap.size + 1) fun _ => 0) := br1.other (by omega) _
        have bb2 : Hid (Below w.heap.size w (w1.setRow w.heap.size (rowB (PP 2)))) := below_setRow bb1 (Nat.le_refl _) _
        clear b1 bk1 br1 bb1 hR
        go_wp2
        exact ⟨⟨2, by omega, rfl, bk2.out, br2.out, bb2.out⟩, by simp [intOf]⟩
      · have hR := bk.out.isRow
        go_wp2_with (refine wpList_ld rfl 75 _ rfl w.heap.size rfl 280 Try.underlying75 rfl (by kernel_rfl) (rowB (PP 2)) bk.out.isRow bk.out.rowIn ?_)
        refine (q2.out _).mono ?_
        rintro e w1 ⟨rfl, b1⟩
        have bk1 := bk.out.below b1
        have br1 := br.out.below b1
        have bb1 := bb.out.trans (b1.mono bb.out.size)
        have hR1 := bk1.isRow
        have bk2 : Hid (Bk (w1.setRow w.heap.size (rowB (PP 3))) w.heap.size (PP 3)) := bk1.set _
        have br2 : Hid (Bk (w1.setRow w.heap.size (rowB (PP 3))) (w.heap.size + 1) fun _ => 0) := br1.other (by omega) _
        have bb2 : Hid (Below w.heap.size w (w1.setRow w.heap.size (rowB (PP 3)))) := below_setRow bb1 (Nat.le_refl _) _
        clear b1 bk1 br1 bb1 hR
        go_wp2
        exact ⟨⟨3, by omega, rfl, bk2.out, br2.out, bb2.out⟩, by simp [intOf]⟩
      · have hR := bk.out.isRow
        go_wp2_with (refine wpList_ld rfl 75 _ rfl w.heap.size rfl 280 Try.underlying75 rfl (by kernel_rfl) (rowB (PP 3)) bk.out.isRow bk.out.rowIn ?_)
        refine (q3.out _).mono ?_
        rintro e w1 ⟨rfl, b1⟩
        have bk1 := bk.out.below b1
        have br1 := br.out.below b1
        have bb1 := bb.out.trans (b1.mono bb.out.size)
        have hR1 := bk1.isRow
        have bk2 : Hid (Bk (w1.setRow w.heap.size (rowB (PP 4))) w.heap.size (PP 4)) := bk1.set _
        have br2 : Hid (Bk (w1.setRow w.heap.size (rowB (PP 4))) (w.heap.size + 1) fun _ => 0) := br1.other (by omega) _
        have bb2 : Hid (Below w.heap.size w (w1.setRow w.heap.size (rowB (PP 4)))) := below_setRow bb1 (Nat.le_refl _) _
        clear b1 bk1 br1 bb1 hR
        go_wp2
        exact ⟨⟨4, by omega, rfl, bk2.out, br2.out, bb2.out⟩, by simp [intOf]⟩
      · go_wp2_with (refine wpList_ld rfl 75 _ rfl w.heap.size rfl 280 Try.underlying75 rfl (by kernel_rfl) (rowB (PP 4)) bk.out.isRow bk.out.rowIn ?_)
        refine (k63e.out _).mono ?_
        rintro e w1 ⟨rfl, b1⟩
        have br1 := br.out.below b1
        have bb1 := bb.out.trans (b1.mono bb.out.size)
        have hR1 := br1.isRow
        have br2 : Hid (Bk (w1.setRow (w.heap.size + 1) (rowB FF)) (w.heap.size + 1) FF) := br1.set _
        have bb2 : Hid (Below w.heap.size w (w1.setRow (w.heap.size + 1) (rowB FF))) := below_setRow bb1 (by omega) _
        clear b1 br1 bb1
        go_wp2
        exact bodyPost_ret (v := .agg (rowB FF)) (results_ld Try.results60 _ _ (w.heap.size + 1) 280 rfl Try.underlying75 rfl (by kernel_rfl) (rowB FF) br2.out.isRow br2.out.rowIn) rfl ⟨rfl, bb2.out⟩
  · have hH1 : (m : Int) / 2 ^ (64 - s) = (H : Int) := by
      rw [← hH]
      unfold hiF
      rw [if_neg c, Int.natCast_ediv, pow_int]
    clear hH
    have c' : (0 : Int) < s := by omega
    go_enter Try.func60, Try.ntmps60
    go_wp2_with fail
    go_loopw [14] (fun x wr => ∃ i : Nat, i ≤ 4 ∧ x = .int .i64 (i : Int) ∧ Hid (Bk wr w.heap.size (PP i)) ∧ Hid (Bk wr (w.heap.size + 1) fun _ => 0) ∧ Hid (Below w.heap.size w wr)) (fun x _ => 4 - (intOf x).toNat)
    case atStart => exact ⟨0, by omega, rfl, by rw [P0.out]; exact BK.out, BR.out, BB.out⟩
    case round =>
      clear BK BR BB P0 hz
      obtain ⟨i, hi, rfl, bk, br, bb⟩ := hrel
      rcases (show i = 0 ∨ i = 1 ∨ i = 2 ∨ i = 3 ∨ i = 4 by omega) with rfl | rfl | rfl | rfl | rfl
      · have hR := bk.out.isRow
        go_wp2_with (refine wpList_ld rfl 75 _ rfl w.heap.size rfl 280 Try.underlying75 rfl (by kernel_rfl) (rowB (PP 0)) bk.out.isRow bk.out.rowIn ?_)
        refine (q0.out _).mono ?_
        rintro e w1 ⟨rfl, b1⟩
        have bk1 := bk.out.below b1
        have br1 := br.out.below b1
        have bb1 := bb.out.trans (b1.mono bb.out.size)
        have hR1 := bk1.isRow
        have bk2 : Hid (Bk (w1.setRow w.heap.size (rowB (PP 1))) w.heap.size (PP 1)) := bk1.set _
        have br2 : Hid (Bk (w1.setRow w.heap.size (rowB (PP 1))) (w.heap.size + 1) fun _ => 0) := br1.other (by omega) _
        have bb2 : Hid (Below w.heap.size w (w1.setRow w.heap.size (rowB (PP 1)))) := below_setRow bb1 (Nat.le_refl _) _
        clear b1 bk1 br1 bb1 hR
        go_wp2
        exact ⟨⟨1, by omega, rfl, bk2.out, br2.out, bb2.out⟩, by simp [intOf]⟩
      · have hR := bk.out.isRow
        go_wp2_with (refine wpList_ld rfl 75 _ rfl w.heap.size rfl 280 Try.underlying75 rfl (by kernel_rfl) (rowB (PP 1)) bk.out.isRow bk.out.rowIn ?_)
        refine (q1.out _).mono ?_
        rintro e w1 ⟨rfl, b1⟩
        have bk1 := bk.out.below b1
        have br1 := br.out.below b1
        have bb1 := bb.out.trans (b1.mono bb.out.size)
        have hR1 := bk1.isRow
        have bk2 : Hid (Bk (w1.setRow w.heap.size (rowB (PP 2))) w.heap.size (PP 2)) := bk1.set _
        have br2 : Hid (Bk (w1.setRow w.heap.size (rowB (PP 2))) (w.heap.size + 1) fun _ => 0) := br1.other (by omega) _
        have bb2 : Hid (Below w.heap.size w (w1.setRow w.heap.size (rowB (PP 2)))) := below_setRow bb1 (Nat.le_refl _) _
        clear b1 bk1 br1 bb1 hR
        go_wp2
        exact ⟨⟨2, by omega, rfl, bk2.out, br2.out, bb2.out⟩, by simp [intOf]⟩
      · have hR := bk.out.isRow
        go_wp2_with (refine wpList_ld rfl 75 _ rfl w.heap.size rfl 280 Try.underlying75 rfl (by kernel_rfl) (rowB (PP 2)) bk.out.isRow bk.out.rowIn ?_)
        refine (q2.out _).mono ?_
        rintro e w1 ⟨rfl, b1⟩
        have bk1 := bk.out.below b1
        have br1 := br.out.below b1
        have bb1 := bb.out.trans (b1.mono bb.out.size)
        have hR1 := bk1.isRow
        have bk2 : Hid (Bk (w1.setRow w.heap.size (rowB (PP 3))) w.heap.size (PP 3)) := bk1.set _
        have br2 : Hid (Bk (w1.setRow w.heap.size (rowB (PP 3))) (w.heap.size + 1) fun _ => 0) := br1.other (by omega) _
        have bb2 : Hid (Below w.heap.size w (w1.setRow w.heap.size (rowB (PP 3)))) := below_setRow bb1 (Nat.le_refl _) _
        clear b1 bk1 br1 bb1 hR
        go_wp2
        exact ⟨⟨3, by omega, rfl, bk2.out, br2.out, bb2.out⟩, by simp [intOf]⟩
      · have hR := bk.out.isRow
        go_wp2_with (refine wpList_ld rfl 75 _ rfl w.heap.size rfl 280 Try.underlying75 rfl (by kernel_rfl) (rowB (PP 3)) bk.out.isRow bk.out.rowIn ?_)
        refine (q3.out _).mono ?_
        rintro e w1 ⟨rfl, b1⟩
        have bk1 := bk.out.below b1
        have br1 := br.out.below b1
        have bb1 := bb.out.trans (b1.mono bb.out.size)
        have hR1 := bk1.isRow
        have bk2 : Hid (Bk (w1.setRow w.heap.size (rowB (PP 4))) w.heap.size (PP 4)) := bk1.set _
        have br2 : Hid (Bk (w1.setRow w.heap.size (rowB (PP 4))) (w.heap.size + 1) fun _ => 0) := br1.other (by omega) _
        have bb2 : Hid (Below w.heap.size w (w1.setRow w.heap.size (rowB (PP 4)))) := below_setRow bb1 (Nat.le_refl _) _
        clear b1 bk1 br1 bb1 hR
        go_wp2
        exact ⟨⟨4, by omega, rfl, bk2.out, br2.out, bb2.out⟩, by simp [intOf]⟩
      · go_wp2_with (refine wpList_ld rfl 75 _ rfl w.heap.size rfl 280 Try.underlying75 rfl (by kernel_rfl) (rowB (PP 4)) bk.out.isRow bk.out.rowIn ?_)
        refine (k63e.out _).mono ?_
        rintro e w1 ⟨rfl, b1⟩
        have br1 := br.out.below b1
        have bb1 := bb.out.trans (b1.mono bb.out.size)
        have hR1 := br1.isRow
        have br2 : Hid (Bk (w1.setRow (w.heap.size + 1) (rowB FF)) (w.heap.size + 1) FF) := br1.set _
        have bb2 : Hid (Below w.heap.size w (w1.setRow (w.heap.size + 1) (rowB FF))) := below_setRow bb1 (by omega) _
        clear b1 br1 bb1
        go_wp2
        exact bodyPost_ret (v := .agg (rowB FF)) (results_ld Try.results60 _ _ (w.heap.size + 1) 280 rfl Try.underlying75 rfl (by kernel_rfl) (rowB FF) br2.out.isRow br2.out.rowIn) rfl ⟨rfl, bb2.out⟩
end Go.Proofs.Ytdhfkdopcphjlab
