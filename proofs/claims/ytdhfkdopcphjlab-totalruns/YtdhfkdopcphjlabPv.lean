/-
  The contract of put: a number of two words, added to the words or taken away, from a place on. Conditions: the words are of 64 bits and lie at the front of one block; the place lies so that three words from it on are there.
-/
import Derived.Test.YtdhfkdopcphjlabPu
import Derived.BigRegion
import Derived.BigQuiet
import Derived.Deep.QuietTactic
namespace Go.Proofs.Ytdhfkdopcphjlab
open Go.RowKit
/-- What put leaves behind. -/
def PutDone (ng : Bool) (b : Nat) (t : TypeId) (cs : Array Value) (W : Nat → Nat) (D : Nat) (w : World) (e : Ending) (w' : World) : Prop := e = .returned (.tuple #[]) ∧ ∃ U, (∀ i, U i < 18446744073709551616) ∧ ((val U 66 : Nat) : Int) % (2 ^ 4224 : Nat) = (((val W 66 : Nat) : Int) + (if ng = true then -(D : Int) else (D : Int))) % (2 ^ 4224 : Nat) ∧ w'.heap[b]? = some (.cells (mkW cs U) t (0, 0)) ∧ w.grownBy w' (some b)
theorem Chg.done {ng : Bool} {W U : Nat → Nat} {k c D b : Nat} {t : TypeId} {cs : Array Value} {w w' : World} (h : Chg ng W U k c D) (hk : k ≤ 66) (hc : c = 0 ∨ k = 66) (h1 : w'.heap[b]? = some (.cells (mkW cs U) t (0, 0))) (h2 : w.grownBy w' (some b)) : PutDone ng b t cs W D w (.returned (.tuple #[])) w' :=
  ⟨rfl, U, h.low, h.ends hk hc, h1, h2⟩
/-- The first pieces, from word f on. -/
def dsum (p : Nat → Nat) (f : Nat) : Nat → Nat
  | 0 => 0
  | k + 1 => dsum p f k + p k * 2 ^ (64 * (f + k))
theorem or_up (x y s : Nat) (hs : s < 64) (hy : y < 18446744073709551616) : bits .or .u64 ((x * 2 ^ s % 18446744073709551616 : Nat) : Int) ((y / 2 ^ (64 - s) : Nat) : Int) = ((x * 2 ^ s % 18446744073709551616 + y / 2 ^ (64 - s) : Nat) : Int) := by
  have e3 : (18446744073709551616 : Nat) = 2 ^ (64 - s) * 2 ^ s := by rw [← Nat.pow_add, show 64 - s + s = 64 by omega]
  have hq : y / 2 ^ (64 - s) < 2 ^ s := Nat.div_lt_of_lt_mul (by rw [← e3]; exact hy)
  have hq2 : y / 2 ^ (64 - s) ≤ y := Nat.div_le_self _ _
  have hm : x * 2 ^ s % 18446744073709551616 % 2 ^ s = 0 := by rw [e3, Nat.mul_mod_mul_right]; exact Nat.mul_mod_left _ _
  rw [u64_or_nat _ _ (by omega) (by omega), nat_join s _ _ hm hq]
set_option maxRecDepth 100000 in
set_option maxHeartbeats 600000 in
theorem put_any (ng : Bool) (b : Nat) (t : TypeId) (cs : Array Value) (W : Nat → Nat) (H L f s : Nat) (w : World) (hcs : 66 ≤ cs.size) (hW : ∀ i, W i < 18446744073709551616) (hH : H < 18446744073709551616) (hL : L < 18446744073709551616) (hf : f + 3 ≤ 66) (hs : s < 64) (hb : w.heap[b]? = some (.cells (mkW cs W) t (0, 0))) :
    Calls Try.prog 87 #[.pointer (some ⟨b, 0, none⟩), .int .u64 (H : Int), .int .u64 (L : Int), .int .i64 ((64 * f + s : Nat) : Int), .bool ng] w (PutDone ng b t cs W ((H * 18446744073709551616 + L) * 2 ^ (64 * f + s)) w) := by
  obtain ⟨DD, hDD⟩ : ∃ DD, (H * 18446744073709551616 + L) * 2 ^ (64 * f + s) = DD := ⟨_, rfl⟩
  rw [hDD]
  have e1 : ((64 * f + s : Nat) : Int).tdiv 64 = (f : Int) := by rw [Int.tdiv_eq_ediv_of_nonneg (by omega)]; omega
  have e2 : ((64 * f + s : Nat) : Int).tmod 64 = (s : Int) := by rw [Int.tmod_eq_emod_of_nonneg (by omega)]; omega
  have HP := pieces_are H L s f hs hL
  have hor := or_up H L s hs hL
  have hl1 := shl_nat L s
  have hl2 := shl_nat H s
  have hr1 := shr_nat L (64 - s)
  have hr2 := shr_nat H (64 - s)
  have b0 : L * 2 ^ s % 18446744073709551616 < 18446744073709551616 := Nat.mod_lt _ (by decide)
  have b1 : H * 2 ^ s % 18446744073709551616 + L / 2 ^ (64 - s) < 18446744073709551616 := by
    have e3 : (18446744073709551616 : Nat) = 2 ^ (64 - s) * 2 ^ s := by rw [← Nat.pow_add, show 64 - s + s = 64 by omega]
    have hq : L / 2 ^ (64 - s) < 2 ^ s := Nat.div_lt_of_lt_mul (by rw [← e3]; exact hL)
    have hm : H * 2 ^ s % 18446744073709551616 % 2 ^ s = 0 := by rw [e3, Nat.mul_mod_mul_right]; exact Nat.mul_mod_left _ _
    have hm2 := Nat.mod_lt (H * 2 ^ s) (show 18446744073709551616 > 0 by decide)
    have hd := Nat.div_add_mod (H * 2 ^ s % 18446744073709551616) (2 ^ s)
    rw [hm, Nat.add_zero] at hd
    have hx : H * 2 ^ s % 18446744073709551616 / 2 ^ s < 2 ^ (64 - s) := Nat.div_lt_of_lt_mul (by rw [Nat.mul_comm (2 ^ s) (2 ^ (64 - s)), ← e3]; exact hm2)
    have := Nat.mul_le_mul_left (2 ^ s) (show H * 2 ^ s % 18446744073709551616 / 2 ^ s + 1 ≤ 2 ^ (64 - s) from hx)
    rw [Nat.mul_add, Nat.mul_one, hd, Nat.mul_comm (2 ^ s) (2 ^ (64 - s)), ← e3] at this
    omega
  have b2 : H / 2 ^ (64 - s) < 18446744073709551616 := Nat.lt_of_le_of_lt (Nat.div_le_self _ _) hH
  obtain ⟨p, hp0, hp1, hp2⟩ : ∃ p : Nat → Nat, p 0 = L * 2 ^ s % 18446744073709551616 ∧ p 1 = H * 2 ^ s % 18446744073709551616 + L / 2 ^ (64 - s) ∧ p 2 = H / 2 ^ (64 - s) := ⟨fun i => if i = 0 then L * 2 ^ s % 18446744073709551616 else if i = 1 then H * 2 ^ s % 18446744073709551616 + L / 2 ^ (64 - s) else H / 2 ^ (64 - s), rfl, rfl, rfl⟩
  rw [← hp0, ← hp1, ← hp2] at HP
  rw [← hp1] at hor b1
  rw [← hp0] at hl1 b0
  rw [← hp2] at hr2 b2
  rw [hDD] at HP
  clear hDD
  have HD3 : Hid (dsum p f 3 = DD) := by rw [← HP]; show 0 + _ + _ + _ = _; rw [Nat.zero_add]; rfl
  clear HP
  clear hp0 hp1 hp2
  generalize H * 2 ^ s % 18446744073709551616 = A at *
  generalize L / 2 ^ (64 - s) = B at *
  have hs2 : (s : Int) < 64 := by omega
  go_enter Try.func87, Try.ntmps87
  generalize ((64 * f + s : Nat) : Int) = F at e1 e2 ⊢
  replace hb := show Hid _ from hb
  replace hW := show Hid _ from hW
  go_wp2_with fail
  go_region
  have B1 : Hid (Below w.heap.size w (w.alloc (.cells #[.int .u64 ((p 0 : Nat) : Int), .int .u64 ((p 1 : Nat) : Int), .int .u64 ((p 2 : Nat) : Int)] 124)).drew) := ((Below.refl _ _).alloc (Nat.le_refl _) _).drew
  have hw1 : Hid ((w.alloc (.cells #[.int .u64 ((p 0 : Nat) : Int), .int .u64 ((p 1 : Nat) : Int), .int .u64 ((p 2 : Nat) : Int)] 124)).drew.heap[w.heap.size]? = some (.cells #[.int .u64 ((p 0 : Nat) : Int), .int .u64 ((p 1 : Nat) : Int), .int .u64 ((p 2 : Nat) : Int)] 124 (0, 0))) := heap_alloc_last _ _
  have c0 : (w.alloc (.cells #[.int .u64 ((p 0 : Nat) : Int), .int .u64 ((p 1 : Nat) : Int), .int .u64 ((p 2 : Nat) : Int)] 124)).drew.cell? ⟨w.heap.size, 0, none⟩ = some (.int .u64 ((p 0 : Nat) : Int)) := cell_of_row _ _ 0 _ _ _ hw1.out
  have c1 : (w.alloc (.cells #[.int .u64 ((p 0 : Nat) : Int), .int .u64 ((p 1 : Nat) : Int), .int .u64 ((p 2 : Nat) : Int)] 124)).drew.cell? ⟨w.heap.size, 1, none⟩ = some (.int .u64 ((p 1 : Nat) : Int)) := cell_of_row _ _ 1 _ _ _ hw1.out
  have c2 : (w.alloc (.cells #[.int .u64 ((p 0 : Nat) : Int), .int .u64 ((p 1 : Nat) : Int), .int .u64 ((p 2 : Nat) : Int)] 124)).drew.cell? ⟨w.heap.size, 2, none⟩ = some (.int .u64 ((p 2 : Nat) : Int)) := cell_of_row _ _ 2 _ _ _ hw1.out
  clear hw1
  have HB : Hid ((w.alloc (.cells #[.int .u64 ((p 0 : Nat) : Int), .int .u64 ((p 1 : Nat) : Int), .int .u64 ((p 2 : Nat) : Int)] 124)).drew.heap[b]? = some (.cells (mkW cs W) t (0, 0))) := (B1.out.block b (Array.getElem?_eq_some_iff.1 hb.out).1).trans hb.out
  generalize (w.alloc (.cells #[.int .u64 ((p 0 : Nat) : Int), .int .u64 ((p 1 : Nat) : Int), .int .u64 ((p 2 : Nat) : Int)] 124)).drew = w1 at *
  go_wp2_with fail
  clear c0 c1 c2
  go_loopw [13, 38] (fun y x wr => ∃ (k c : Nat) (U : Nat → Nat), k ≤ 3 ∧ x = .int .i64 (k : Int) ∧ y = .int .u64 (c : Int) ∧ Hid (Chg ng W U (f + k) c (dsum p f k)) ∧ Hid (wr.heap[b]? = some (.cells (mkW cs U) t (0, 0))) ∧ Hid (w.grownBy wr (some b))) (fun _ x _ => 3 - (intOf x).toNat)
  case atStart => exact ⟨0, 0, W, by omega, rfl, rfl, Chg.start ng f hW.out, HB.out, grownBy_of_below _ B1.out⟩
  case round =>
    obtain ⟨k, c, U, hk, rfl, rfl, hC, hB, hG⟩ := hrel
    by_cases ck : k < 3
    · have hix := fun w => index3 p k w ck
      have k2 : (k : Int) < 3 := by omega
      obtain ⟨K, hKe⟩ : ∃ K, f + k = K := ⟨_, rfl⟩
      have hK : K < 66 := by omega
      have hadd : IntKind.i64.wrap ((f : Int) + (k : Int)) = (K : Int) := by rw [IntKind.wrap_i64]; omega
      rw [hKe] at hC
      have hpk : p k < 18446744073709551616 := by rcases (show k = 0 ∨ k = 1 ∨ k = 2 by omega) with rfl | rfl | rfl <;> assumption
      have hstep : Hid (Chg ng W (setW U K (chW ng (U K) (p k) c)) (K + 1) (chC ng (U K) (p k) c) (dsum p f k + p k * 2 ^ (64 * K))) := Chg.step hC.out (p k) hpk
      have k68 := fun w => changed_any ng (U K) (p k) c w hC.out.carry
      generalize chW ng (U K) (p k) c = S at *
      generalize chC ng (U K) (p k) c = C at *
      have HKe := show Hid _ from hKe
      clear hKe e1 e2
      go_wp2_with fail
      have hst : ∀ w3, Below wr.heap.size wr w3 → w3.heap.size = wr.heap.size → ∀ s : Nat → Bool, (∀ j, s j = false) → Puts b t wr cs U (setW U K S) 22 11 s w3 := fun w3 hb3 _ s hs => ⟨grownBy_of_below _ hb3, by rw [hs 22]; exact (hb3.block b (Array.getElem?_eq_some_iff.1 hB.out).1).trans hB.out, fun h => by rw [hs 22] at h; cases h⟩
      refine wp_region_vals (a1 := ?a1r6n1) (Puts b t wr cs U (setW U K S) 22 11) [.pointer (some ⟨b, 0, none⟩), .int .i64 (f : Int), .int .i64 (k : Int), .int .i64 (K : Int), .pointer (some ⟨b, 0, none⟩), .int .i64 (f : Int), .int .i64 (k : Int), .int .i64 (K : Int), .pointer (some ⟨b, 0, none⟩), .pointer (some ⟨b, 0, none⟩), .pointer (some ⟨b, K, none⟩), .int .u64 ((U K : Nat) : Int), .int .u64 ((p k : Nat) : Int), .int .u64 (c : Int), .bool ng, .tuple #[.int .u64 ((S : Nat) : Int), .int .u64 ((C : Nat) : Int)], .tuple #[.int .u64 ((S : Nat) : Int), .int .u64 ((C : Nat) : Int)], .int .u64 ((S : Nat) : Int), .int .u64 ((C : Nat) : Int), .pointer (some ⟨b, 0, none⟩), .pointer (some ⟨b, 0, none⟩), .pointer (some ⟨b, K, none⟩), undef, .int .u64 ((C : Nat) : Int)] 92 rfl (by kernel_rfl) (by kernel_rfl) hst ⟨?o0r6n1, ?o1r6n1, ?o2r6n1, ?o3r6n1, ?o4r6n1, ?o5r6n1, ?o6r6n1, ?o7r6n1, ?o8r6n1, ?o9r6n1, ?o10r6n1, ?o11r6n1, ?o12r6n1, ?o13r6n1, ?o14r6n1, ?o15r6n1, ?o16r6n1, ?o17r6n1, ?o18r6n1, ?o19r6n1, ?o20r6n1, ?o21r6n1, ?o22r6n1, ?o23r6n1, trivial⟩ ?har6n1 ?hdoner6n1
      case har6n1 => simp [putAll, Act.put]; exact rfl
      case o0r6n1 => exact ValOp.pure (Puts.steady 0 (by decide)) [(0, .pointer (some ⟨b, 0, none⟩))] rfl (fun _ _ h2 => ⟨(h2 0 (by kernel_rfl)).trans rfl, trivial⟩) (by kernel_rfl) (fun _ _ _ _ _ => by kernel_rfl)
      case o1r6n1 => exact ValOp.pure (Puts.steady 1 (by decide)) [(11, .int .i64 (f : Int))] rfl (fun _ _ h2 => ⟨(h2 11 (by kernel_rfl)).trans rfl, trivial⟩) (by kernel_rfl) (fun _ _ _ _ _ => by kernel_rfl)
      case o2r6n1 => exact ValOp.pure (Puts.steady 2 (by decide)) [(14, .int .i64 (k : Int))] rfl (fun _ _ h2 => ⟨(h2 14 (by kernel_rfl)).trans rfl, trivial⟩) (by kernel_rfl) (fun _ _ _ _ _ => by kernel_rfl)
      case o3r6n1 => exact ValOp.pure (Puts.steady 3 (by decide)) [(44, .int .i64 (f : Int)), (45, .int .i64 (k : Int))] rfl (fun _ h1 _ => ⟨h1 1 44 (by kernel_rfl), h1 2 45 (by kernel_rfl), trivial⟩) (by kernel_rfl) (fun _ _ _ _ _ => run_bin (a := .int .i64 (f : Int)) (b := .int .i64 (k : Int)) rfl rfl rfl (by kernel_rfl) (by simp [go_sem, hadd]))
      case o4r6n1 => exact ValOp.pure (Puts.steady 4 (by decide)) [(0, .pointer (some ⟨b, 0, none⟩))] rfl (fun _ _ h2 => ⟨(h2 0 (by kernel_rfl)).trans rfl, trivial⟩) (by kernel_rfl) (fun _ _ _ _ _ => by kernel_rfl)
      case o5r6n1 => exact ValOp.pure (Puts.steady 5 (by decide)) [(11, .int .i64 (f : Int))] rfl (fun _ _ h2 => ⟨(h2 11 (by kernel_rfl)).trans rfl, trivial⟩) (by kernel_rfl) (fun _ _ _ _ _ => by kernel_rfl)
      case o6r6n1 => exact ValOp.pure (Puts.steady 6 (by decide)) [(14, .int .i64 (k : Int))] rfl (fun _ _ h2 => ⟨(h2 14 (by kernel_rfl)).trans rfl, trivial⟩) (by kernel_rfl) (fun _ _ _ _ _ => by kernel_rfl)
      case o7r6n1 => exact ValOp.pure (Puts.steady 7 (by decide)) [(48, .int .i64 (f : Int)), (49, .int .i64 (k : Int))] rfl (fun _ h1 _ => ⟨h1 5 48 (by kernel_rfl), h1 6 49 (by kernel_rfl), trivial⟩) (by kernel_rfl) (fun _ _ _ _ _ => run_bin (a := .int .i64 (f : Int)) (b := .int .i64 (k : Int)) rfl rfl rfl (by kernel_rfl) (by simp [go_sem, hadd]))
      case o8r6n1 => exact ValOp.pure (Puts.steady 8 (by decide)) [(47, .pointer (some ⟨b, 0, none⟩))] rfl (fun _ h1 _ => ⟨h1 4 47 (by kernel_rfl), trivial⟩) (by kernel_rfl) (fun _ _ _ _ _ => run_nil rfl rfl)
      case o9r6n1 => exact ValOp.pure (Puts.steady 9 (by decide)) [(51, .pointer (some ⟨b, 0, none⟩))] rfl (fun _ h1 _ => ⟨h1 8 51 (by kernel_rfl), trivial⟩) (by kernel_rfl) (fun _ _ _ _ _ => by kernel_rfl)
      case o10r6n1 => exact ValOp.pure (Puts.steady 10 (by decide)) [(52, .pointer (some ⟨b, 0, none⟩)), (50, .int .i64 (K : Int))] rfl (fun _ h1 _ => ⟨h1 9 52 (by kernel_rfl), h1 7 50 (by kernel_rfl), trivial⟩) (by kernel_rfl) (fun _ _ _ _ _ => run_ix rfl rfl rfl hK)
      case o11r6n1 => exact ValOp.pure (Puts.steady 11 (by decide)) [(53, .pointer (some ⟨b, K, none⟩))] rfl (fun _ h1 _ => ⟨h1 10 53 (by kernel_rfl), trivial⟩) (by kernel_rfl) (fun s1 w1 h1 hg _ => run_read rfl rfl (run_cell (hg.first h1) (mkW_low _ _ _ hK hcs) (Try.isAgg66 _)))
      case o12r6n1 => exact ValOp.pure (Puts.steady 12 (by decide)) [(15, .int .u64 ((p k : Nat) : Int))] rfl (fun _ _ h2 => ⟨(h2 15 (by kernel_rfl)).trans rfl, trivial⟩) (by kernel_rfl) (fun _ _ _ _ _ => by kernel_rfl)
      case o13r6n1 => exact ValOp.pure (Puts.steady 13 (by decide)) [(13, .int .u64 (c : Int))] rfl (fun _ _ h2 => ⟨(h2 13 (by kernel_rfl)).trans rfl, trivial⟩) (by kernel_rfl) (fun _ _ _ _ _ => by kernel_rfl)
      case o14r6n1 => exact ValOp.pure (Puts.steady 14 (by decide)) [(4, .bool ng)] rfl (fun _ _ h2 => ⟨(h2 4 (by kernel_rfl)).trans rfl, trivial⟩) (by kernel_rfl) (fun _ _ _ _ _ => by kernel_rfl)
      case o15r6n1 => exact ValOp.call (Puts.steady 15 (by decide)) [(54, .int .u64 ((U K : Nat) : Int)), (55, .int .u64 ((p k : Nat) : Int)), (56, .int .u64 (c : Int)), (57, .bool ng)] rfl (fun _ h1 _ => ⟨h1 11 54 (by kernel_rfl), h1 12 55 (by kernel_rfl), h1 13 56 (by kernel_rfl), h1 14 57 (by kernel_rfl), trivial⟩) (by kernel_rfl) 112 #[.int .u64 ((U K : Nat) : Int), .int .u64 ((p k : Nat) : Int), .int .u64 (c : Int), .bool ng] (fun _ => by kernel_rfl) (fun _ w _ => k68 w)
      case o16r6n1 => exact ValOp.pure (Puts.steady 16 (by decide)) [(58, .tuple #[.int .u64 ((S : Nat) : Int), .int .u64 ((C : Nat) : Int)])] rfl (fun _ h1 _ => ⟨h1 15 58 (by kernel_rfl), trivial⟩) (by kernel_rfl) (fun _ _ _ _ _ => by kernel_rfl)
      case o17r6n1 => exact ValOp.pure (Puts.steady 17 (by decide)) [(42, .tuple #[.int .u64 ((S : Nat) : Int), .int .u64 ((C : Nat) : Int)])] rfl (fun _ h1 _ => ⟨h1 16 42 (by kernel_rfl), trivial⟩) (by kernel_rfl) (fun _ _ _ _ _ => by kernel_rfl)
      case o18r6n1 => exact ValOp.pure (Puts.steady 18 (by decide)) [(42, .tuple #[.int .u64 ((S : Nat) : Int), .int .u64 ((C : Nat) : Int)])] rfl (fun _ h1 _ => ⟨h1 16 42 (by kernel_rfl), trivial⟩) (by kernel_rfl) (fun _ _ _ _ _ => by kernel_rfl)
      case o19r6n1 => exact ValOp.pure (Puts.steady 19 (by decide)) [(43, .pointer (some ⟨b, 0, none⟩))] rfl (fun _ h1 _ => ⟨h1 0 43 (by kernel_rfl), trivial⟩) (by kernel_rfl) (fun _ _ _ _ _ => run_nil rfl rfl)
      case o20r6n1 => exact ValOp.pure (Puts.steady 20 (by decide)) [(61, .pointer (some ⟨b, 0, none⟩))] rfl (fun _ h1 _ => ⟨h1 19 61 (by kernel_rfl), trivial⟩) (by kernel_rfl) (fun _ _ _ _ _ => by kernel_rfl)
      case o21r6n1 => exact ValOp.pure (Puts.steady 21 (by decide)) [(62, .pointer (some ⟨b, 0, none⟩)), (46, .int .i64 (K : Int))] rfl (fun _ h1 _ => ⟨h1 20 62 (by kernel_rfl), h1 3 46 (by kernel_rfl), trivial⟩) (by kernel_rfl) (fun _ _ _ _ _ => run_ix rfl rfl rfl hK)
      case o22r6n1 => exact ValOp.storeN [(63, .pointer (some ⟨b, K, none⟩)), (59, .int .u64 ((S : Nat) : Int))] rfl rfl (fun _ h1 _ => ⟨h1 21 63 (by kernel_rfl), h1 17 59 (by kernel_rfl), trivial⟩) (by kernel_rfl) (g := b) (off := K) (v := .int .u64 ((S : Nat) : Int)) rfl rfl rfl rfl (fun s1 w1 _ hg _ => run_store_int hg.at_ (by rw [mkW_size]; omega) (Try.sizeOf66 _)) (fun s1 w1 h1 hg hn => hg.store hK h1 (hn 11 (by kernel_rfl)))
      case o23r6n1 => exact ValOp.pure (Puts.steady 23 (by decide)) [(60, .int .u64 ((C : Nat) : Int))] rfl (fun _ h1 _ => ⟨h1 18 60 (by kernel_rfl), trivial⟩) (by kernel_rfl) (fun _ _ _ _ _ => by kernel_rfl)
      intro w3 s3 hs3 hg3
      have hB3 : Hid (w3.heap[b]? = some (.cells (mkW cs (setW U K S)) t (0, 0))) := by have := hg3.at_; rw [hs3 22 (by decide)] at this; exact this
      have hG3 : Hid (w.grownBy w3 (some b)) := grownBy_trans hG.out hg3.kept
      clear hg3 hst k68 hix hs3
      go_wp2
      refine ⟨⟨k + 1, C, setW U K S, by omega, by go_num, rfl, ?_, hB3.out, hG3.out⟩, by simp [intOf]; omega⟩
      have := hstep.out
      rw [← HKe.out] at this ⊢
      exact this
    · have e3 : (k : Int) = 3 := by omega
      rw [e3]
      have HE : Hid (k = 3) := show k = 3 by omega
      replace hC : Hid (Chg ng W U (f + 3) c (dsum p f 3)) := by have := hC.out; rw [HE.out] at this; exact this
      clear e3 HE hk ck
      have h3 : Hid (f + 3 ≤ 66) := hf
      go_wp2_with fail
      go_loopw [13, 16] (fun y x wr => ∃ (k c : Nat) (U : Nat → Nat), k ≤ 66 ∧ x = .int .i64 (k : Int) ∧ y = .int .u64 (c : Int) ∧ Hid (Chg ng W U k c DD) ∧ Hid (wr.heap[b]? = some (.cells (mkW cs U) t (0, 0))) ∧ Hid (w.grownBy wr (some b))) (fun _ x _ => 66 - (intOf x).toNat)
      case atStart => exact ⟨f + 3, c, U, hf, by go_num, rfl, by rw [← HD3.out]; exact hC.out, hB.out, hG.out⟩
      case round =>
        clear hC hB hG
        obtain ⟨k, c, U, hk, rfl, rfl, hC, hB, hG⟩ := hrel
        by_cases ck : k < 66
        · have k2 : (k : Int) < 66 := by omega
          by_cases cz : c = 0
          · have HD : Hid (PutDone ng b t cs W DD w (.returned (.tuple #[])) wr) := hC.out.done hk (.inl cz) hB.out hG.out
            clear hC hB hG
            subst cz
            go_wp2
            exact bodyPost_end (results_none rfl _ _ _) rfl HD.out
          · have cz2 : ((c : Int) != 0) = true := bne_iff_ne.2 (by omega)
            clear cz
            obtain ⟨K, hKe⟩ : ∃ K, k = K := ⟨_, rfl⟩
            subst hKe
            have hK : k < 66 := ck
            have hstep : Hid (Chg ng W (setW U k (chW ng (U k) 0 c)) (k + 1) (chC ng (U k) 0 c) (DD + 0 * 2 ^ (64 * k))) := Chg.step hC.out 0 (by decide)
            have k68 := fun w => changed_any ng (U k) 0 c w hC.out.carry
            have e0 : DD + 0 * 2 ^ (64 * k) = DD := by rw [Nat.zero_mul, Nat.add_zero]
            rw [e0] at hstep
            clear e0 e1 e2 hf h3
            replace k68 : ∀ w, Calls Try.prog 112 #[.int .u64 ((U k : Nat) : Int), .int .u64 0, .int .u64 (c : Int), .bool ng] w fun e w' => e = .returned (.tuple #[.int .u64 (chW ng (U k) 0 c : Nat), .int .u64 (chC ng (U k) 0 c : Nat)]) ∧ Below w.heap.size w w' := k68
            generalize chW ng (U k) 0 c = S at *
            generalize chC ng (U k) 0 c = C at *
            go_wp2_with fail
            have hst : ∀ w3, Below wr.heap.size wr w3 → w3.heap.size = wr.heap.size → ∀ s : Nat → Bool, (∀ j, s j = false) → Puts b t wr cs U (setW U k S) 17 7 s w3 := fun w3 hb3 _ s hs => ⟨grownBy_of_below _ hb3, by rw [hs 17]; exact (hb3.block b (Array.getElem?_eq_some_iff.1 hB.out).1).trans hB.out, fun h => by rw [hs 17] at h; cases h⟩
            refine wp_region_vals (a1 := ?a1r11n2) (Puts b t wr cs U (setW U k S) 17 7) [.pointer (some ⟨b, 0, none⟩), .int .i64 (k : Int), .pointer (some ⟨b, 0, none⟩), .int .i64 (k : Int), .pointer (some ⟨b, 0, none⟩), .pointer (some ⟨b, 0, none⟩), .pointer (some ⟨b, k, none⟩), .int .u64 ((U k : Nat) : Int), .int .u64 (c : Int), .bool ng, .tuple #[.int .u64 ((S : Nat) : Int), .int .u64 ((C : Nat) : Int)], .tuple #[.int .u64 ((S : Nat) : Int), .int .u64 ((C : Nat) : Int)], .int .u64 ((S : Nat) : Int), .int .u64 ((C : Nat) : Int), .pointer (some ⟨b, 0, none⟩), .pointer (some ⟨b, 0, none⟩), .pointer (some ⟨b, k, none⟩), undef, .int .u64 ((C : Nat) : Int)] 92 rfl (by kernel_rfl) (by kernel_rfl) hst ⟨?o0r11n2, ?o1r11n2, ?o2r11n2, ?o3r11n2, ?o4r11n2, ?o5r11n2, ?o6r11n2, ?o7r11n2, ?o8r11n2, ?o9r11n2, ?o10r11n2, ?o11r11n2, ?o12r11n2, ?o13r11n2, ?o14r11n2, ?o15r11n2, ?o16r11n2, ?o17r11n2, ?o18r11n2, trivial⟩ ?har11n2 ?hdoner11n2
            case har11n2 => simp [putAll, Act.put]; exact rfl
            case o0r11n2 => exact ValOp.pure (Puts.steady 0 (by decide)) [(0, .pointer (some ⟨b, 0, none⟩))] rfl (fun _ _ h2 => ⟨(h2 0 (by kernel_rfl)).trans rfl, trivial⟩) (by kernel_rfl) (fun _ _ _ _ _ => by kernel_rfl)
            case o1r11n2 => exact ValOp.pure (Puts.steady 1 (by decide)) [(16, .int .i64 (k : Int))] rfl (fun _ _ h2 => ⟨(h2 16 (by kernel_rfl)).trans rfl, trivial⟩) (by kernel_rfl) (fun _ _ _ _ _ => by kernel_rfl)
            case o2r11n2 => exact ValOp.pure (Puts.steady 2 (by decide)) [(0, .pointer (some ⟨b, 0, none⟩))] rfl (fun _ _ h2 => ⟨(h2 0 (by kernel_rfl)).trans rfl, trivial⟩) (by kernel_rfl) (fun _ _ _ _ _ => by kernel_rfl)
            case o3r11n2 => exact ValOp.pure (Puts.steady 3 (by decide)) [(16, .int .i64 (k : Int))] rfl (fun _ _ h2 => ⟨(h2 16 (by kernel_rfl)).trans rfl, trivial⟩) (by kernel_rfl) (fun _ _ _ _ _ => by kernel_rfl)
            case o4r11n2 => exact ValOp.pure (Puts.steady 4 (by decide)) [(78, .pointer (some ⟨b, 0, none⟩))] rfl (fun _ h1 _ => ⟨h1 2 78 (by kernel_rfl), trivial⟩) (by kernel_rfl) (fun _ _ _ _ _ => run_nil rfl rfl)
            case o5r11n2 => exact ValOp.pure (Puts.steady 5 (by decide)) [(80, .pointer (some ⟨b, 0, none⟩))] rfl (fun _ h1 _ => ⟨h1 4 80 (by kernel_rfl), trivial⟩) (by kernel_rfl) (fun _ _ _ _ _ => by kernel_rfl)
            case o6r11n2 => exact ValOp.pure (Puts.steady 6 (by decide)) [(81, .pointer (some ⟨b, 0, none⟩)), (79, .int .i64 (k : Int))] rfl (fun _ h1 _ => ⟨h1 5 81 (by kernel_rfl), h1 3 79 (by kernel_rfl), trivial⟩) (by kernel_rfl) (fun _ _ _ _ _ => run_ix rfl rfl rfl hK)
            case o7r11n2 => exact ValOp.pure (Puts.steady 7 (by decide)) [(82, .pointer (some ⟨b, k, none⟩))] rfl (fun _ h1 _ => ⟨h1 6 82 (by kernel_rfl), trivial⟩) (by kernel_rfl) (fun s1 w1 h1 hg _ => run_read rfl rfl (run_cell (hg.first h1) (mkW_low _ _ _ hK hcs) (Try.isAgg66 _)))
            case o8r11n2 => exact ValOp.pure (Puts.steady 8 (by decide)) [(13, .int .u64 (c : Int))] rfl (fun _ _ h2 => ⟨(h2 13 (by kernel_rfl)).trans rfl, trivial⟩) (by kernel_rfl) (fun _ _ _ _ _ => by kernel_rfl)
            case o9r11n2 => exact ValOp.pure (Puts.steady 9 (by decide)) [(4, .bool ng)] rfl (fun _ _ h2 => ⟨(h2 4 (by kernel_rfl)).trans rfl, trivial⟩) (by kernel_rfl) (fun _ _ _ _ _ => by kernel_rfl)
            case o10r11n2 => exact ValOp.call (Puts.steady 10 (by decide)) [(83, .int .u64 ((U k : Nat) : Int)), (84, .int .u64 (c : Int)), (85, .bool ng)] rfl (fun _ h1 _ => ⟨h1 7 83 (by kernel_rfl), h1 8 84 (by kernel_rfl), h1 9 85 (by kernel_rfl), trivial⟩) (by kernel_rfl) 112 #[.int .u64 ((U k : Nat) : Int), .int .u64 0, .int .u64 (c : Int), .bool ng] (fun _ => by kernel_rfl) (fun _ w _ => k68 w)
            case o11r11n2 => exact ValOp.pure (Puts.steady 11 (by decide)) [(86, .tuple #[.int .u64 ((S : Nat) : Int), .int .u64 ((C : Nat) : Int)])] rfl (fun _ h1 _ => ⟨h1 10 86 (by kernel_rfl), trivial⟩) (by kernel_rfl) (fun _ _ _ _ _ => by kernel_rfl)
            case o12r11n2 => exact ValOp.pure (Puts.steady 12 (by decide)) [(75, .tuple #[.int .u64 ((S : Nat) : Int), .int .u64 ((C : Nat) : Int)])] rfl (fun _ h1 _ => ⟨h1 11 75 (by kernel_rfl), trivial⟩) (by kernel_rfl) (fun _ _ _ _ _ => by kernel_rfl)
            case o13r11n2 => exact ValOp.pure (Puts.steady 13 (by decide)) [(75, .tuple #[.int .u64 ((S : Nat) : Int), .int .u64 ((C : Nat) : Int)])] rfl (fun _ h1 _ => ⟨h1 11 75 (by kernel_rfl), trivial⟩) (by kernel_rfl) (fun _ _ _ _ _ => by kernel_rfl)
            case o14r11n2 => exact ValOp.pure (Puts.steady 14 (by decide)) [(76, .pointer (some ⟨b, 0, none⟩))] rfl (fun _ h1 _ => ⟨h1 0 76 (by kernel_rfl), trivial⟩) (by kernel_rfl) (fun _ _ _ _ _ => run_nil rfl rfl)
            case o15r11n2 => exact ValOp.pure (Puts.steady 15 (by decide)) [(89, .pointer (some ⟨b, 0, none⟩))] rfl (fun _ h1 _ => ⟨h1 14 89 (by kernel_rfl), trivial⟩) (by kernel_rfl) (fun _ _ _ _ _ => by kernel_rfl)
            case o16r11n2 => exact ValOp.pure (Puts.steady 16 (by decide)) [(90, .pointer (some ⟨b, 0, none⟩)), (77, .int .i64 (k : Int))] rfl (fun _ h1 _ => ⟨h1 15 90 (by kernel_rfl), h1 1 77 (by kernel_rfl), trivial⟩) (by kernel_rfl) (fun _ _ _ _ _ => run_ix rfl rfl rfl hK)
            case o17r11n2 => exact ValOp.storeN [(91, .pointer (some ⟨b, k, none⟩)), (87, .int .u64 ((S : Nat) : Int))] rfl rfl (fun _ h1 _ => ⟨h1 16 91 (by kernel_rfl), h1 12 87 (by kernel_rfl), trivial⟩) (by kernel_rfl) (g := b) (off := k) (v := .int .u64 ((S : Nat) : Int)) rfl rfl rfl rfl (fun s1 w1 _ hg _ => run_store_int hg.at_ (by rw [mkW_size]; omega) (Try.sizeOf66 _)) (fun s1 w1 h1 hg hn => hg.store hK h1 (hn 7 (by kernel_rfl)))
            case o18r11n2 => exact ValOp.pure (Puts.steady 18 (by decide)) [(88, .int .u64 ((C : Nat) : Int))] rfl (fun _ h1 _ => ⟨h1 13 88 (by kernel_rfl), trivial⟩) (by kernel_rfl) (fun _ _ _ _ _ => by kernel_rfl)
            intro w3 s3 hs3 hg3
            have hB3 : Hid (w3.heap[b]? = some (.cells (mkW cs (setW U k S)) t (0, 0))) := by have := hg3.at_; rw [hs3 17 (by decide)] at this; exact this
            have hG3 : Hid (w.grownBy w3 (some b)) := grownBy_trans hG.out hg3.kept
            clear hg3 hst k68 hs3
            go_wp2
            go_round
            case rel =>

              exact ⟨k + 1, C, setW U k S, by omega, by go_num, rfl, hstep.out, hB3.out, hG3.out⟩
            case measure => simp [intOf]; omega
        · have k2 : ¬ (k : Int) < 66 := by omega
          have HD : Hid (PutDone ng b t cs W DD w (.returned (.tuple #[])) wr) := hC.out.done hk (.inr (by omega)) hB.out hG.out
          clear hC hB hG
          go_wp2
          exact bodyPost_end (results_none rfl _ _ _) rfl HD.out
end Go.Proofs.Ytdhfkdopcphjlab
