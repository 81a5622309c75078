/-
  The contract of the document's Put: two lists put together in one way. Conditions: the lists' spans may be; the lists are not too long.
-/
import Derived.Test.YtddoanmhikldiaaEd
import Derived.Test.YtddoanmhikldiaaJo
import Derived.Test.YtddoanmhikldiaaRi
namespace Go.Proofs.Ytddoanmhikldiaa
open Go.RowKit
/-- The last loop's body. -/
def loopOf : Code → Code
  | .loop c => c
  | .block _ c => loopOf c
  | .seq _ b => loopOf b
  | c => c
def blk : Code → Code
  | .block _ c => c
  | c => c
noncomputable def body20 : Code := Try.f20.body.getD .skip
noncomputable def loop20 : Code := loopOf (hd (sq 3 body20))
noncomputable def in20 : Code := blk (hd (sq 1 loop20))
def opB (way : Nat) (x y : Bool) : Bool := match way with
  | 1 => x && y
  | 2 => x && !y
  | 3 => !x && !y
  | _ => x || y
def glue (o : List Sn) (s : Sn) : List Sn :=
  match o.getLast? with
  | none => [s]
  | some t => if t.2 + 1 = s.1 then o.dropLast ++ [(t.1, s.2)] else o ++ [s]
theorem glue_snoc (y : List Sn) (t s : Sn) : glue (y ++ [t]) s = if t.2 + 1 = s.1 then y ++ [(t.1, s.2)] else y ++ [t] ++ [s] := by simp [glue]
def toE (E : List Int) (i : Nat) : Int := if i + 1 < E.length then E.getD (i + 1) 0 - 1 else 1114111
def putK (E : List Int) (f : Int → Bool) : Nat → List Sn
  | 0 => []
  | k + 1 => if f (E.getD k 0) then glue (putK E f k) (E.getD k 0, toE E k) else putK E f k
theorem run_l21b {w : World} {g o : Nat} {x : Int} (h : w.cell? ⟨g, o, none⟩ = some (.int .i32 x)) : (loadVar 21 ⟨g, o, none⟩).run Try.prog w = .ok (.int .i32 x) w := run_l21 h
set_option maxRecDepth 100000 in
set_option maxHeartbeats 2000000 in
theorem put_A {Q : Exit → Act → World → Prop} (A B : List Sn) (E : List Int) (pa pb : Option Addr) (ca cb ge oe ce way i : Nat) (vo : Value) (e to : Int) (x y : Bool) (a : Act) (w : World) (hi : i < E.length) (hlE : E.length ≤ 100000000) (hto : toE E i = to) (hfit : ∀ z ∈ E, 0 ≤ z ∧ z ≤ 1114111)
    (hE : Hid (∀ w1 : World, Below w.heap.size w w1 → w1.cell? ⟨ge, oe + i, none⟩ = some (.int .i32 e))) (hE2 : Hid (i + 1 < E.length → w.cell? ⟨ge, oe + (i + 1), none⟩ = some (.int .i32 (E.getD (i + 1) 0))))
    (HA : Hid (∀ w1 : World, Below w.heap.size w w1 → Calls Try.prog 27 #[.slice pa A.length ca, .int .i32 e] w1 fun e w' => e = .returned (.bool x) ∧ Below w1.heap.size w1 w')) (HB : Hid (∀ w1 : World, Below w.heap.size w w1 → Calls Try.prog 27 #[.slice pb B.length cb, .int .i32 e] w1 fun e w' => e = .returned (.bool y) ∧ Below w1.heap.size w1 w'))
    (hK : Hid (∀ a w', Below w.heap.size w w' → At 111 [(0, .slice pa A.length ca), (1, .slice pb B.length cb), (2, .int .i64 (way : Nat)), (7, .slice (some ⟨ge, oe, none⟩) E.length ce), (8, vo), (9, .int .i64 (i : Nat)), (10, .int .i32 to), (11, .bool x), (12, .bool y)] a → Code.wp Try.prog (sq 3 in20) Q a w')) (ha : At 111 [(0, .slice pa A.length ca), (1, .slice pb B.length cb), (2, .int .i64 (way : Nat)), (7, .slice (some ⟨ge, oe, none⟩) E.length ce), (8, vo), (9, .int .i64 (i : Nat))] a) : Code.wp Try.prog in20 Q a w := by
  have hi1 : (i : Int) < (E.length : Int) := by omega
  change Code.wp _ (sq 0 in20) _ _ _
  obtain ⟨f, rfl, h0, h1, h2, h7, h8, h9, -⟩ := ha.lit
  change Code.wp _ _ _ ⟨#[f 0, f 1, f 2, f 3, f 4, f 5, f 6, f 7, f 8, f 9, f 10, f 11, f 12, f 13, f 14, f 15, f 16, f 17, f 18, f 19, f 20, f 21, f 22, f 23, f 24, f 25, f 26, f 27, f 28, f 29, f 30, f 31, f 32, f 33, f 34, f 35, f 36, f 37, f 38, f 39, f 40, f 41, f 42, f 43, f 44, f 45, f 46, f 47, f 48, f 49, f 50, f 51, f 52, f 53, f 54, f 55, f 56, f 57, f 58, f 59, f 60, f 61, f 62, f 63, f 64, f 65, f 66, f 67, f 68, f 69, f 70, f 71, f 72, f 73, f 74, f 75, f 76, f 77, f 78, f 79, f 80, f 81, f 82, f 83, f 84, f 85, f 86, f 87, f 88, f 89, f 90, f 91, f 92, f 93, f 94, f 95, f 96, f 97, f 98, f 99, f 100, f 101, f 102, f 103, f 104, f 105, f 106, f 107, f 108, f 109, f 110], []⟩ _
  simp only at h0 h1 h2 h7 h8 h9
  simp only [h0, h1, h2, h7, h8, h9]
  clear h0 h1 h2 h7 h8 h9
  change Code.wp _ (Code.seq (hd (sq 0 in20)) (Code.seq (hd (sq 1 in20)) (Code.seq (hd (sq 2 in20)) (sq 3 in20)))) _ _ _
  generalize sq 3 in20 = REST at hK ⊢
  conv => arg 2; arg 1; whnf
  conv => arg 2; arg 2; arg 1; whnf
  conv => arg 2; arg 2; arg 2; arg 1; whnf
  by_cases c : i + 1 < E.length
  · have c1 : (i : Int) + 1 < (E.length : Int) := by omega
    have hz : Hid _ := hfit (E.getD (i + 1) 0) (by simp [List.getD, List.getElem?_eq_getElem c])
    have hto2 : Hid (E.getD (i + 1) 0 - 1 = to) := by rw [Hid, ← hto, toE, if_pos c]
    have e2 := hE2.out c
    have hi3 : ((i : Int) + 1).toNat = i + 1 := by omega
    generalize E.getD (i + 1) 0 = z at *
    obtain ⟨z1, z2⟩ := hz.out
    clear hto hE2 hfit
    go_wp2_with fail
    rw [hto2.out]
    refine wp_region_vals (a1 := ?a1r9n1) (grown _) [.slice pa A.length ca, .slice (some ⟨ge, oe, none⟩) (E.length) (ce), .int .i64 (i : Int), .pointer (some ⟨ge, oe + i, none⟩), .int .i32 e, .bool x, .slice pb B.length cb, .slice (some ⟨ge, oe, none⟩) (E.length) (ce), .int .i64 (i : Int), .pointer (some ⟨ge, oe + i, none⟩), .int .i32 e, .bool y, .bool x, .bool y] 111 rfl (by kernel_rfl) (by kernel_rfl) (grown_start _) ⟨?o0r9n1, ?o1r9n1, ?o2r9n1, ?o3r9n1, ?o4r9n1, ?o5r9n1, ?o6r9n1, ?o7r9n1, ?o8r9n1, ?o9r9n1, ?o10r9n1, ?o11r9n1, ?o12r9n1, ?o13r9n1, trivial⟩ ?har9n1 ?hdoner9n1
    case har9n1 => simp [putAll, Act.put]; exact rfl
    case o0r9n1 => exact ValOp.pure (grown_steady _ 0) [(0, .slice pa A.length ca)] rfl (fun _ _ h2 => ⟨(h2 0 (by kernel_rfl)).trans rfl, trivial⟩) (by kernel_rfl) (fun _ _ _ _ _ => by kernel_rfl)
    case o1r9n1 => exact ValOp.pure (grown_steady _ 1) [(7, .slice (some ⟨ge, oe, none⟩) (E.length) (ce))] rfl (fun _ _ h2 => ⟨(h2 7 (by kernel_rfl)).trans rfl, trivial⟩) (by kernel_rfl) (fun _ _ _ _ _ => by kernel_rfl)
    case o2r9n1 => exact ValOp.pure (grown_steady _ 2) [(9, .int .i64 (i : Int))] rfl (fun _ _ h2 => ⟨(h2 9 (by kernel_rfl)).trans rfl, trivial⟩) (by kernel_rfl) (fun _ _ _ _ _ => by kernel_rfl)
    case o3r9n1 => exact ValOp.pure (grown_steady _ 3) [(38, .slice (some ⟨ge, oe, none⟩) (E.length) (ce)), (39, .int .i64 (i : Int))] rfl (fun _ h1 _ => ⟨h1 1 38 (by kernel_rfl), h1 2 39 (by kernel_rfl), trivial⟩) (by kernel_rfl) (fun _ _ _ hg _ => run_ia_65 rfl rfl rfl hi)
    case o4r9n1 => exact ValOp.pure (grown_steady _ 4) [(40, .pointer (some ⟨ge, oe + i, none⟩))] rfl (fun _ h1 _ => ⟨h1 3 40 (by kernel_rfl), trivial⟩) (by kernel_rfl) (fun _ _ _ hg _ => run_read rfl rfl (run_l21 (hE.out _ hg)))
    case o5r9n1 => exact ValOp.call (grown_steady _ 5) [(37, .slice pa A.length ca), (41, .int .i32 e)] rfl (fun _ h1 _ => ⟨h1 0 37 (by kernel_rfl), h1 4 41 (by kernel_rfl), trivial⟩) (by kernel_rfl) 27 #[.slice pa A.length ca, .int .i32 e] (fun _ => by kernel_rfl) (fun _ w1 hg => HA.out w1 hg)
    case o6r9n1 => exact ValOp.pure (grown_steady _ 6) [(1, .slice pb B.length cb)] rfl (fun _ _ h2 => ⟨(h2 1 (by kernel_rfl)).trans rfl, trivial⟩) (by kernel_rfl) (fun _ _ _ _ _ => by kernel_rfl)
    case o7r9n1 => exact ValOp.pure (grown_steady _ 7) [(7, .slice (some ⟨ge, oe, none⟩) (E.length) (ce))] rfl (fun _ _ h2 => ⟨(h2 7 (by kernel_rfl)).trans rfl, trivial⟩) (by kernel_rfl) (fun _ _ _ _ _ => by kernel_rfl)
    case o8r9n1 => exact ValOp.pure (grown_steady _ 8) [(9, .int .i64 (i : Int))] rfl (fun _ _ h2 => ⟨(h2 9 (by kernel_rfl)).trans rfl, trivial⟩) (by kernel_rfl) (fun _ _ _ _ _ => by kernel_rfl)
    case o9r9n1 => exact ValOp.pure (grown_steady _ 9) [(44, .slice (some ⟨ge, oe, none⟩) (E.length) (ce)), (45, .int .i64 (i : Int))] rfl (fun _ h1 _ => ⟨h1 7 44 (by kernel_rfl), h1 8 45 (by kernel_rfl), trivial⟩) (by kernel_rfl) (fun _ _ _ hg _ => run_ia_65 rfl rfl rfl hi)
    case o10r9n1 => exact ValOp.pure (grown_steady _ 10) [(46, .pointer (some ⟨ge, oe + i, none⟩))] rfl (fun _ h1 _ => ⟨h1 9 46 (by kernel_rfl), trivial⟩) (by kernel_rfl) (fun _ _ _ hg _ => run_read rfl rfl (run_l21 (hE.out _ hg)))
    case o11r9n1 => exact ValOp.call (grown_steady _ 11) [(43, .slice pb B.length cb), (47, .int .i32 e)] rfl (fun _ h1 _ => ⟨h1 6 43 (by kernel_rfl), h1 10 47 (by kernel_rfl), trivial⟩) (by kernel_rfl) 27 #[.slice pb B.length cb, .int .i32 e] (fun _ => by kernel_rfl) (fun _ w1 hg => HB.out w1 hg)
    case o12r9n1 => exact ValOp.pure (grown_steady _ 12) [(42, .bool x)] rfl (fun _ h1 _ => ⟨h1 5 42 (by kernel_rfl), trivial⟩) (by kernel_rfl) (fun _ _ _ _ _ => by kernel_rfl)
    case o13r9n1 => exact ValOp.pure (grown_steady _ 13) [(48, .bool y)] rfl (fun _ h1 _ => ⟨h1 11 48 (by kernel_rfl), trivial⟩) (by kernel_rfl) (fun _ _ _ _ _ => by kernel_rfl)
    case hdoner9n1 =>
      intro w1 s1 hs1 hg1
      go_wp2
      exact hK.out _ _ hg1 ⟨rfl, rfl, rfl, rfl, rfl, rfl, rfl, rfl, rfl, rfl, rfl, trivial⟩
  · have c1 : ¬ (i : Int) + 1 < (E.length : Int) := by omega
    have hto2 : Hid ((1114111 : Int) = to) := by rw [Hid, ← hto, toE, if_neg c]
    clear hto hE2 c hfit
    go_wp2_with fail
    rw [hto2.out]
    refine wp_region_vals (a1 := ?a1r9n2) (grown _) [.slice pa A.length ca, .slice (some ⟨ge, oe, none⟩) (E.length) (ce), .int .i64 (i : Int), .pointer (some ⟨ge, oe + i, none⟩), .int .i32 e, .bool x, .slice pb B.length cb, .slice (some ⟨ge, oe, none⟩) (E.length) (ce), .int .i64 (i : Int), .pointer (some ⟨ge, oe + i, none⟩), .int .i32 e, .bool y, .bool x, .bool y] 111 rfl (by kernel_rfl) (by kernel_rfl) (grown_start _) ⟨?o0r9n2, ?o1r9n2, ?o2r9n2, ?o3r9n2, ?o4r9n2, ?o5r9n2, ?o6r9n2, ?o7r9n2, ?o8r9n2, ?o9r9n2, ?o10r9n2, ?o11r9n2, ?o12r9n2, ?o13r9n2, trivial⟩ ?har9n2 ?hdoner9n2
    case har9n2 => simp [putAll, Act.put]; exact rfl
    case o0r9n2 => exact ValOp.pure (grown_steady _ 0) [(0, .slice pa A.length ca)] rfl (fun _ _ h2 => ⟨(h2 0 (by kernel_rfl)).trans rfl, trivial⟩) (by kernel_rfl) (fun _ _ _ _ _ => by kernel_rfl)
    case o1r9n2 => exact ValOp.pure (grown_steady _ 1) [(7, .slice (some ⟨ge, oe, none⟩) (E.length) (ce))] rfl (fun _ _ h2 => ⟨(h2 7 (by kernel_rfl)).trans rfl, trivial⟩) (by kernel_rfl) (fun _ _ _ _ _ => by kernel_rfl)
    case o2r9n2 => exact ValOp.pure (grown_steady _ 2) [(9, .int .i64 (i : Int))] rfl (fun _ _ h2 => ⟨(h2 9 (by kernel_rfl)).trans rfl, trivial⟩) (by kernel_rfl) (fun _ _ _ _ _ => by kernel_rfl)
    case o3r9n2 => exact ValOp.pure (grown_steady _ 3) [(38, .slice (some ⟨ge, oe, none⟩) (E.length) (ce)), (39, .int .i64 (i : Int))] rfl (fun _ h1 _ => ⟨h1 1 38 (by kernel_rfl), h1 2 39 (by kernel_rfl), trivial⟩) (by kernel_rfl) (fun _ _ _ hg _ => run_ia_65 rfl rfl rfl hi)
    case o4r9n2 => exact ValOp.pure (grown_steady _ 4) [(40, .pointer (some ⟨ge, oe + i, none⟩))] rfl (fun _ h1 _ => ⟨h1 3 40 (by kernel_rfl), trivial⟩) (by kernel_rfl) (fun _ _ _ hg _ => run_read rfl rfl (run_l21 (hE.out _ hg)))
    case o5r9n2 => exact ValOp.call (grown_steady _ 5) [(37, .slice pa A.length ca), (41, .int .i32 e)] rfl (fun _ h1 _ => ⟨h1 0 37 (by kernel_rfl), h1 4 41 (by kernel_rfl), trivial⟩) (by kernel_rfl) 27 #[.slice pa A.length ca, .int .i32 e] (fun _ => by kernel_rfl) (fun _ w1 hg => HA.out w1 hg)
    case o6r9n2 => exact ValOp.pure (grown_steady _ 6) [(1, .slice pb B.length cb)] rfl (fun _ _ h2 => ⟨(h2 1 (by kernel_rfl)).trans rfl, trivial⟩) (by kernel_rfl) (fun _ _ _ _ _ => by kernel_rfl)
    case o7r9n2 => exact ValOp.pure (grown_steady _ 7) [(7, .slice (some ⟨ge, oe, none⟩) (E.length) (ce))] rfl (fun _ _ h2 => ⟨(h2 7 (by kernel_rfl)).trans rfl, trivial⟩) (by kernel_rfl) (fun _ _ _ _ _ => by kernel_rfl)
    case o8r9n2 => exact ValOp.pure (grown_steady _ 8) [(9, .int .i64 (i : Int))] rfl (fun _ _ h2 => ⟨(h2 9 (by kernel_rfl)).trans rfl, trivial⟩) (by kernel_rfl) (fun _ _ _ _ _ => by kernel_rfl)
    case o9r9n2 => exact ValOp.pure (grown_steady _ 9) [(44, .slice (some ⟨ge, oe, none⟩) (E.length) (ce)), (45, .int .i64 (i : Int))] rfl (fun _ h1 _ => ⟨h1 7 44 (by kernel_rfl), h1 8 45 (by kernel_rfl), trivial⟩) (by kernel_rfl) (fun _ _ _ hg _ => run_ia_65 rfl rfl rfl hi)
    case o10r9n2 => exact ValOp.pure (grown_steady _ 10) [(46, .pointer (some ⟨ge, oe + i, none⟩))] rfl (fun _ h1 _ => ⟨h1 9 46 (by kernel_rfl), trivial⟩) (by kernel_rfl) (fun _ _ _ hg _ => run_read rfl rfl (run_l21 (hE.out _ hg)))
    case o11r9n2 => exact ValOp.call (grown_steady _ 11) [(43, .slice pb B.length cb), (47, .int .i32 e)] rfl (fun _ h1 _ => ⟨h1 6 43 (by kernel_rfl), h1 10 47 (by kernel_rfl), trivial⟩) (by kernel_rfl) 27 #[.slice pb B.length cb, .int .i32 e] (fun _ => by kernel_rfl) (fun _ w1 hg => HB.out w1 hg)
    case o12r9n2 => exact ValOp.pure (grown_steady _ 12) [(42, .bool x)] rfl (fun _ h1 _ => ⟨h1 5 42 (by kernel_rfl), trivial⟩) (by kernel_rfl) (fun _ _ _ _ _ => by kernel_rfl)
    case o13r9n2 => exact ValOp.pure (grown_steady _ 13) [(48, .bool y)] rfl (fun _ h1 _ => ⟨h1 11 48 (by kernel_rfl), trivial⟩) (by kernel_rfl) (fun _ _ _ _ _ => by kernel_rfl)
    case hdoner9n2 =>
      intro w1 s1 hs1 hg1
      go_wp2
      exact hK.out _ _ hg1 ⟨rfl, rfl, rfl, rfl, rfl, rfl, rfl, rfl, rfl, rfl, rfl, trivial⟩
set_option maxRecDepth 100000 in
set_option maxHeartbeats 2000000 in
theorem put_B {Q : Exit → Act → World → Prop} (A B : List Sn) (E : List Int) (pa pb : Option Addr) (ca cb ge oe ce way i : Nat) (vo : Value) (to : Int) (x y : Bool) (a : Act) (w : World) (hw : way = 0 ∨ way = 1 ∨ way = 2 ∨ way = 3)
    (hK : Hid (opB way x y = true → ∀ a, At 111 [(0, .slice pa A.length ca), (1, .slice pb B.length cb), (2, .int .i64 (way : Nat)), (7, .slice (some ⟨ge, oe, none⟩) E.length ce), (8, vo), (9, .int .i64 (i : Nat)), (10, .int .i32 to)] a → Code.wp Try.prog (sq 6 in20) Q a w)) (hQ : Hid (opB way x y = false → ∀ a, At 111 [(0, .slice pa A.length ca), (1, .slice pb B.length cb), (2, .int .i64 (way : Nat)), (7, .slice (some ⟨ge, oe, none⟩) E.length ce), (8, vo), (9, .int .i64 (i : Nat))] a → Q (.exit 1) a w)) (ha : At 111 [(0, .slice pa A.length ca), (1, .slice pb B.length cb), (2, .int .i64 (way : Nat)), (7, .slice (some ⟨ge, oe, none⟩) E.length ce), (8, vo), (9, .int .i64 (i : Nat)), (10, .int .i32 to), (11, .bool x), (12, .bool y)] a) : Code.wp Try.prog (sq 3 in20) Q a w := by
  rcases hw with rfl | rfl | rfl | rfl <;> cases x <;> cases y
  · obtain ⟨f, rfl, h0, h1, h2, h7, h8, h9, h10, h11, h12, -⟩ := ha.lit
    change Code.wp _ _ _ ⟨#[f 0, f 1, f 2, f 3, f 4, f 5, f 6, f 7, f 8, f 9, f 10, f 11, f 12, f 13, f 14, f 15, f 16, f 17, f 18, f 19, f 20, f 21, f 22, f 23, f 24, f 25, f 26, f 27, f 28, f 29, f 30, f 31, f 32, f 33, f 34, f 35, f 36, f 37, f 38, f 39, f 40, f 41, f 42, f 43, f 44, f 45, f 46, f 47, f 48, f 49, f 50, f 51, f 52, f 53, f 54, f 55, f 56, f 57, f 58, f 59, f 60, f 61, f 62, f 63, f 64, f 65, f 66, f 67, f 68, f 69, f 70, f 71, f 72, f 73, f 74, f 75, f 76, f 77, f 78, f 79, f 80, f 81, f 82, f 83, f 84, f 85, f 86, f 87, f 88, f 89, f 90, f 91, f 92, f 93, f 94, f 95, f 96, f 97, f 98, f 99, f 100, f 101, f 102, f 103, f 104, f 105, f 106, f 107, f 108, f 109, f 110], []⟩ _
    simp only at h0 h1 h2 h7 h8 h9 h10 h11 h12
    simp only [h0, h1, h2, h7, h8, h9, h10, h11, h12]
    clear h0 h1 h2 h7 h8 h9 h10 h11 h12
    replace hQ := hQ.out rfl
    replace hQ : Hid (∀ a, At 111 [(0, .slice pa A.length ca), (1, .slice pb B.length cb), (2, .int .i64 (0 : Nat)), (7, .slice (some ⟨ge, oe, none⟩) E.length ce), (8, vo), (9, .int .i64 (i : Nat))] a → Q (.exit 1) a w) := hQ
    clear hK
    change Code.wp _ (Code.seq (hd (sq 3 in20)) (Code.seq (hd (sq 4 in20)) (Code.seq (hd (sq 5 in20)) (sq 6 in20)))) _ _ _
    generalize sq 6 in20 = REST
    conv => arg 2; arg 1; whnf
    conv => arg 2; arg 2; arg 1; whnf
    conv => arg 2; arg 2; arg 2; arg 1; whnf
    go_wp2
    exact hQ.out _ ⟨rfl, rfl, rfl, rfl, rfl, rfl, rfl, rfl, trivial⟩
  · obtain ⟨f, rfl, h0, h1, h2, h7, h8, h9, h10, h11, h12, -⟩ := ha.lit
    change Code.wp _ _ _ ⟨#[f 0, f 1, f 2, f 3, f 4, f 5, f 6, f 7, f 8, f 9, f 10, f 11, f 12, f 13, f 14, f 15, f 16, f 17, f 18, f 19, f 20, f 21, f 22, f 23, f 24, f 25, f 26, f 27, f 28, f 29, f 30, f 31, f 32, f 33, f 34, f 35, f 36, f 37, f 38, f 39, f 40, f 41, f 42, f 43, f 44, f 45, f 46, f 47, f 48, f 49, f 50, f 51, f 52, f 53, f 54, f 55, f 56, f 57, f 58, f 59, f 60, f 61, f 62, f 63, f 64, f 65, f 66, f 67, f 68, f 69, f 70, f 71, f 72, f 73, f 74, f 75, f 76, f 77, f 78, f 79, f 80, f 81, f 82, f 83, f 84, f 85, f 86, f 87, f 88, f 89, f 90, f 91, f 92, f 93, f 94, f 95, f 96, f 97, f 98, f 99, f 100, f 101, f 102, f 103, f 104, f 105, f 106, f 107, f 108, f 109, f 110], []⟩ _
    simp only at h0 h1 h2 h7 h8 h9 h10 h11 h12
    simp only [h0, h1, h2, h7, h8, h9, h10, h11, h12]
    clear h0 h1 h2 h7 h8 h9 h10 h11 h12
    replace hK := hK.out rfl
    replace hK : Hid (∀ a, At 111 [(0, .slice pa A.length ca), (1, .slice pb B.length cb), (2, .int .i64 (0 : Nat)), (7, .slice (some ⟨ge, oe, none⟩) E.length ce), (8, vo), (9, .int .i64 (i : Nat)), (10, .int .i32 to)] a → Code.wp Try.prog (sq 6 in20) Q a w) := hK
    clear hQ
    change Code.wp _ (Code.seq (hd (sq 3 in20)) (Code.seq (hd (sq 4 in20)) (Code.seq (hd (sq 5 in20)) (sq 6 in20)))) _ _ _
    generalize sq 6 in20 = REST at hK ⊢
    conv => arg 2; arg 1; whnf
    conv => arg 2; arg 2; arg 1; whnf
    conv => arg 2; arg 2; arg 2; arg 1; whnf
    go_wp2
    exact hK.out _ ⟨rfl, rfl, rfl, rfl, rfl, rfl, rfl, rfl, rfl, trivial⟩
  · obtain ⟨f, rfl, h0, h1, h2, h7, h8, h9, h10, h11, h12, -⟩ := ha.lit
    change Code.wp _ _ _ ⟨#[f 0, f 1, f 2, f 3, f 4, f 5, f 6, f 7, f 8, f 9, f 10, f 11, f 12, f 13, f 14, f 15, f 16, f 17, f 18, f 19, f 20, f 21, f 22, f 23, f 24, f 25, f 26, f 27, f 28, f 29, f 30, f 31, f 32, f 33, f 34, f 35, f 36, f 37, f 38, f 39, f 40, f 41, f 42, f 43, f 44, f 45, f 46, f 47, f 48, f 49, f 50, f 51, f 52, f 53, f 54, f 55, f 56, f 57, f 58, f 59, f 60, f 61, f 62, f 63, f 64, f 65, f 66, f 67, f 68, f 69, f 70, f 71, f 72, f 73, f 74, f 75, f 76, f 77, f 78, f 79, f 80, f 81, f 82, f 83, f 84, f 85, f 86, f 87, f 88, f 89, f 90, f 91, f 92, f 93, f 94, f 95, f 96, f 97, f 98, f 99, f 100, f 101, f 102, f 103, f 104, f 105, f 106, f 107, f 108, f 109, f 110], []⟩ _
    simp only at h0 h1 h2 h7 h8 h9 h10 h11 h12
    simp only [h0, h1, h2, h7, h8, h9, h10, h11, h12]
    clear h0 h1 h2 h7 h8 h9 h10 h11 h12
    replace hK := hK.out rfl
    replace hK : Hid (∀ a, At 111 [(0, .slice pa A.length ca), (1, .slice pb B.length cb), (2, .int .i64 (0 : Nat)), (7, .slice (some ⟨ge, oe, none⟩) E.length ce), (8, vo), (9, .int .i64 (i : Nat)), (10, .int .i32 to)] a → Code.wp Try.prog (sq 6 in20) Q a w) := hK
    clear hQ
    change Code.wp _ (Code.seq (hd (sq 3 in20)) (Code.seq (hd (sq 4 in20)) (Code.seq (hd (sq 5 in20)) (sq 6 in20)))) _ _ _
    generalize sq 6 in20 = REST at hK ⊢
    conv => arg 2; arg 1; whnf
    conv => arg 2; arg 2; arg 1; whnf
    conv => arg 2; arg 2; arg 2; arg 1; whnf
    go_wp2
    exact hK.out _ ⟨rfl, rfl, rfl, rfl, rfl, rfl, rfl, rfl, rfl, trivial⟩
  · obtain ⟨f, rfl, h0, h1, h2, h7, h8, h9, h10, h11, h12, -⟩ := ha.lit
    change Code.wp _ _ _ ⟨#[f 0, f 1, f 2, f 3, f 4, f 5, f 6, f 7, f 8, f 9, f 10, f 11, f 12, f 13, f 14, f 15, f 16, f 17, f 18, f 19, f 20, f 21, f 22, f 23, f 24, f 25, f 26, f 27, f 28, f 29, f 30, f 31, f 32, f 33, f 34, f 35, f 36, f 37, f 38, f 39, f 40, f 41, f 42, f 43, f 44, f 45, f 46, f 47, f 48, f 49, f 50, f 51, f 52, f 53, f 54, f 55, f 56, f 57, f 58, f 59, f 60, f 61, f 62, f 63, f 64, f 65, f 66, f 67, f 68, f 69, f 70, f 71, f 72, f 73, f 74, f 75, f 76, f 77, f 78, f 79, f 80, f 81, f 82, f 83, f 84, f 85, f 86, f 87, f 88, f 89, f 90, f 91, f 92, f 93, f 94, f 95, f 96, f 97, f 98, f 99, f 100, f 101, f 102, f 103, f 104, f 105, f 106, f 107, f 108, f 109, f 110], []⟩ _
    simp only at h0 h1 h2 h7 h8 h9 h10 h11 h12
    simp only [h0, h1, h2, h7, h8, h9, h10, h11, h12]
    clear h0 h1 h2 h7 h8 h9 h10 h11 h12
    replace hK := hK.out rfl
    replace hK : Hid (∀ a, At 111 [(0, .slice pa A.length ca), (1, .slice pb B.length cb), (2, .int .i64 (0 : Nat)), (7, .slice (some ⟨ge, oe, none⟩) E.length ce), (8, vo), (9, .int .i64 (i : Nat)), (10, .int .i32 to)] a → Code.wp Try.prog (sq 6 in20) Q a w) := hK
    clear hQ
    change Code.wp _ (Code.seq (hd (sq 3 in20)) (Code.seq (hd (sq 4 in20)) (Code.seq (hd (sq 5 in20)) (sq 6 in20)))) _ _ _
    generalize sq 6 in20 = REST at hK ⊢
    conv => arg 2; arg 1; whnf
    conv => arg 2; arg 2; arg 1; whnf
    conv => arg 2; arg 2; arg 2; arg 1; whnf
    go_wp2
    exact hK.out _ ⟨rfl, rfl, rfl, rfl, rfl, rfl, rfl, rfl, rfl, trivial⟩
  · obtain ⟨f, rfl, h0, h1, h2, h7, h8, h9, h10, h11, h12, -⟩ := ha.lit
    change Code.wp _ _ _ ⟨#[f 0, f 1, f 2, f 3, f 4, f 5, f 6, f 7, f 8, f 9, f 10, f 11, f 12, f 13, f 14, f 15, f 16, f 17, f 18, f 19, f 20, f 21, f 22, f 23, f 24, f 25, f 26, f 27, f 28, f 29, f 30, f 31, f 32, f 33, f 34, f 35, f 36, f 37, f 38, f 39, f 40, f 41, f 42, f 43, f 44, f 45, f 46, f 47, f 48, f 49, f 50, f 51, f 52, f 53, f 54, f 55, f 56, f 57, f 58, f 59, f 60, f 61, f 62, f 63, f 64, f 65, f 66, f 67, f 68, f 69, f 70, f 71, f 72, f 73, f 74, f 75, f 76, f 77, f 78, f 79, f 80, f 81, f 82, f 83, f 84, f 85, f 86, f 87, f 88, f 89, f 90, f 91, f 92, f 93, f 94, f 95, f 96, f 97, f 98, f 99, f 100, f 101, f 102, f 103, f 104, f 105, f 106, f 107, f 108, f 109, f 110], []⟩ _
    simp only at h0 h1 h2 h7 h8 h9 h10 h11 h12
    simp only [h0, h1, h2, h7, h8, h9, h10, h11, h12]
    clear h0 h1 h2 h7 h8 h9 h10 h11 h12
    replace hQ := hQ.out rfl
    replace hQ : Hid (∀ a, At 111 [(0, .slice pa A.length ca), (1, .slice pb B.length cb), (2, .int .i64 (1 : Nat)), (7, .slice (some ⟨ge, oe, none⟩) E.length ce), (8, vo), (9, .int .i64 (i : Nat))] a → Q (.exit 1) a w) := hQ
    clear hK
    change Code.wp _ (Code.seq (hd (sq 3 in20)) (Code.seq (hd (sq 4 in20)) (Code.seq (hd (sq 5 in20)) (sq 6 in20)))) _ _ _
    generalize sq 6 in20 = REST
    conv => arg 2; arg 1; whnf
    conv => arg 2; arg 2; arg 1; whnf
    conv => arg 2; arg 2; arg 2; arg 1; whnf
    go_wp2
    exact hQ.out _ ⟨rfl, rfl, rfl, rfl, rfl, rfl, rfl, rfl, trivial⟩
  · obtain ⟨f, rfl, h0, h1, h2, h7, h8, h9, h10, h11, h12, -⟩ := ha.lit
    change Code.wp _ _ _ ⟨#[f 0, f 1, f 2, f 3, f 4, f 5, f 6, f 7, f 8, f 9, f 10, f 11, f 12, f 13, f 14, f 15, f 16, f 17, f 18, f 19, f 20, f 21, f 22, f 23, f 24, f 25, f 26, f 27, f 28, f 29, f 30, f 31, f 32, f 33, f 34, f 35, f 36, f 37, f 38, f 39, f 40, f 41, f 42, f 43, f 44, f 45, f 46, f 47, f 48, f 49, f 50, f 51, f 52, f 53, f 54, f 55, f 56, f 57, f 58, f 59, f 60, f 61, f 62, f 63, f 64, f 65, f 66, f 67, f 68, f 69, f 70, f 71, f 72, f 73, f 74, f 75, f 76, f 77, f 78, f 79, f 80, f 81, f 82, f 83, f 84, f 85, f 86, f 87, f 88, f 89, f 90, f 91, f 92, f 93, f 94, f 95, f 96, f 97, f 98, f 99, f 100, f 101, f 102, f 103, f 104, f 105, f 106, f 107, f 108, f 109, f 110], []⟩ _
    simp only at h0 h1 h2 h7 h8 h9 h10 h11 h12
    simp only [h0, h1, h2, h7, h8, h9, h10, h11, h12]
    clear h0 h1 h2 h7 h8 h9 h10 h11 h12
    replace hQ := hQ.out rfl
    replace hQ : Hid (∀ a, At 111 [(0, .slice pa A.length ca), (1, .slice pb B.length cb), (2, .int .i64 (1 : Nat)), (7, .slice (some ⟨ge, oe, none⟩) E.length ce), (8, vo), (9, .int .i64 (i : Nat))] a → Q (.exit 1) a w) := hQ
    clear hK
    change Code.wp _ (Code.seq (hd (sq 3 in20)) (Code.seq (hd (sq 4 in20)) (Code.seq (hd (sq 5 in20)) (sq 6 in20)))) _ _ _
    generalize sq 6 in20 = REST
    conv => arg 2; arg 1; whnf
    conv => arg 2; arg 2; arg 1; whnf
    conv => arg 2; arg 2; arg 2; arg 1; whnf
    go_wp2
    exact hQ.out _ ⟨rfl, rfl, rfl, rfl, rfl, rfl, rfl, rfl, trivial⟩
  · obtain ⟨f, rfl, h0, h1, h2, h7, h8, h9, h10, h11, h12, -⟩ := ha.lit
    change Code.wp _ _ _ ⟨#[f 0, f 1, f 2, f 3, f 4, f 5, f 6, f 7, f 8, f 9, f 10, f 11, f 12, f 13, f 14, f 15, f 16, f 17, f 18, f 19, f 20, f 21, f 22, f 23, f 24, f 25, f 26, f 27, f 28, f 29, f 30, f 31, f 32, f 33, f 34, f 35, f 36, f 37, f 38, f 39, f 40, f 41, f 42, f 43, f 44, f 45, f 46, f 47, f 48, f 49, f 50, f 51, f 52, f 53, f 54, f 55, f 56, f 57, f 58, f 59, f 60, f 61, f 62, f 63, f 64, f 65, f 66, f 67, f 68, f 69, f 70, f 71, f 72, f 73, f 74, f 75, f 76, f 77, f 78, f 79, f 80, f 81, f 82, f 83, f 84, f 85, f 86, f 87, f 88, f 89, f 90, f 91, f 92, f 93, f 94, f 95, f 96, f 97, f 98, f 99, f 100, f 101, f 102, f 103, f 104, f 105, f 106, f 107, f 108, f 109, f 110], []⟩ _
    simp only at h0 h1 h2 h7 h8 h9 h10 h11 h12
    simp only [h0, h1, h2, h7, h8, h9, h10, h11, h12]
    clear h0 h1 h2 h7 h8 h9 h10 h11 h12
    replace hQ := hQ.out rfl
    replace hQ : Hid (∀ a, At 111 [(0, .slice pa A.length ca), (1, .slice pb B.length cb), (2, .int .i64 (1 : Nat)), (7, .slice (some ⟨ge, oe, none⟩) E.length ce), (8, vo), (9, .int .i64 (i : Nat))] a → Q (.exit 1) a w) := hQ
    clear hK
    change Code.wp _ (Code.seq (hd (sq 3 in20)) (Code.seq (hd (sq 4 in20)) (Code.seq (hd (sq 5 in20)) (sq 6 in20)))) _ _ _
    generalize sq 6 in20 = REST
    conv => arg 2; arg 1; whnf
    conv => arg 2; arg 2; arg 1; whnf
    conv => arg 2; arg 2; arg 2; arg 1; whnf
    go_wp2
    exact hQ.out _ ⟨rfl, rfl, rfl, rfl, rfl, rfl, rfl, rfl, trivial⟩
  · obtain ⟨f, rfl, h0, h1, h2, h7, h8, h9, h10, h11, h12, -⟩ := ha.lit
    change Code.wp _ _ _ ⟨#[f 0, f 1, f 2, f 3, f 4, f 5, f 6, f 7, f 8, f 9, f 10, f 11, f 12, f 13, f 14, f 15, f 16, f 17, f 18, f 19, f 20, f 21, f 22, f 23, f 24, f 25, f 26, f 27, f 28, f 29, f 30, f 31, f 32, f 33, f 34, f 35, f 36, f 37, f 38, f 39, f 40, f 41, f 42, f 43, f 44, f 45, f 46, f 47, f 48, f 49, f 50, f 51, f 52, f 53, f 54, f 55, f 56, f 57, f 58, f 59, f 60, f 61, f 62, f 63, f 64, f 65, f 66, f 67, f 68, f 69, f 70, f 71, f 72, f 73, f 74, f 75, f 76, f 77, f 78, f 79, f 80, f 81, f 82, f 83, f 84, f 85, f 86, f 87, f 88, f 89, f 90, f 91, f 92, f 93, f 94, f 95, f 96, f 97, f 98, f 99, f 100, f 101, f 102, f 103, f 104, f 105, f 106, f 107, f 108, f 109, f 110], []⟩ _
    simp only at h0 h1 h2 h7 h8 h9 h10 h11 h12
    simp only [h0, h1, h2, h7, h8, h9, h10, h11, h12]
    clear h0 h1 h2 h7 h8 h9 h10 h11 h12
    replace hK := hK.out rfl
    replace hK : Hid (∀ a, At 111 [(0, .slice pa A.length ca), (1, .slice pb B.length cb), (2, .int .i64 (1 : Nat)), (7, .slice (some ⟨ge, oe, none⟩) E.length ce), (8, vo), (9, .int .i64 (i : Nat)), (10, .int .i32 to)] a → Code.wp Try.prog (sq 6 in20) Q a w) := hK
    clear hQ
    change Code.wp _ (Code.seq (hd (sq 3 in20)) (Code.seq (hd (sq 4 in20)) (Code.seq (hd (sq 5 in20)) (sq 6 in20)))) _ _ _
    generalize sq 6 in20 = REST at hK ⊢
    conv => arg 2; arg 1; whnf
    conv => arg 2; arg 2; arg 1; whnf
    conv => arg 2; arg 2; arg 2; arg 1; whnf
    go_wp2
    exact hK.out _ ⟨rfl, rfl, rfl, rfl, rfl, rfl, rfl, rfl, rfl, trivial⟩
  · obtain ⟨f, rfl, h0, h1, h2, h7, h8, h9, h10, h11, h12, -⟩ := ha.lit
    change Code.wp _ _ _ ⟨#[f 0, f 1, f 2, f 3, f 4, f 5, f 6, f 7, f 8, f 9, f 10, f 11, f 12, f 13, f 14, f 15, f 16, f 17, f 18, f 19, f 20, f 21, f 22, f 23, f 24, f 25, f 26, f 27, f 28, f 29, f 30, f 31, f 32, f 33, f 34, f 35, f 36, f 37, f 38, f 39, f 40, f 41, f 42, f 43, f 44, f 45, f 46, f 47, f 48, f 49, f 50, f 51, f 52, f 53, f 54, f 55, f 56, f 57, f 58, f 59, f 60, f 61, f 62, f 63, f 64, f 65, f 66, f 67, f 68, f 69, f 70, f 71, f 72, f 73, f 74, f 75, f 76, f 77, f 78, f 79, f 80, f 81, f 82, f 83, f 84, f 85, f 86, f 87, f 88, f 89, f 90, f 91, f 92, f 93, f 94, f 95, f 96, f 97, f 98, f 99, f 100, f 101, f 102, f 103, f 104, f 105, f 106, f 107, f 108, f 109, f 110], []⟩ _
    simp only at h0 h1 h2 h7 h8 h9 h10 h11 h12
    simp only [h0, h1, h2, h7, h8, h9, h10, h11, h12]
    clear h0 h1 h2 h7 h8 h9 h10 h11 h12
    replace hQ := hQ.out rfl
    replace hQ : Hid (∀ a, At 111 [(0, .slice pa A.length ca), (1, .slice pb B.length cb), (2, .int .i64 (2 : Nat)), (7, .slice (some ⟨ge, oe, none⟩) E.length ce), (8, vo), (9, .int .i64 (i : Nat))] a → Q (.exit 1) a w) := hQ
    clear hK
    change Code.wp _ (Code.seq (hd (sq 3 in20)) (Code.seq (hd (sq 4 in20)) (Code.seq (hd (sq 5 in20)) (sq 6 in20)))) _ _ _
    generalize sq 6 in20 = REST
    conv => arg 2; arg 1; whnf
    conv => arg 2; arg 2; arg 1; whnf
    conv => arg 2; arg 2; arg 2; arg 1; whnf
    go_wp2
    exact hQ.out _ ⟨rfl, rfl, rfl, rfl, rfl, rfl, rfl, rfl, trivial⟩
  · obtain ⟨f, rfl, h0, h1, h2, h7, h8, h9, h10, h11, h12, -⟩ := ha.lit
    change Code.wp _ _ _ ⟨#[f 0, f 1, f 2, f 3, f 4, f 5, f 6, f 7, f 8, f 9, f 10, f 11, f 12, f 13, f 14, f 15, f 16, f 17, f 18, f 19, f 20, f 21, f 22, f 23, f 24, f 25, f 26, f 27, f 28, f 29, f 30, f 31, f 32, f 33, f 34, f 35, f 36, f 37, f 38, f 39, f 40, f 41, f 42, f 43, f 44, f 45, f 46, f 47, f 48, f 49, f 50, f 51, f 52, f 53, f 54, f 55, f 56, f 57, f 58, f 59, f 60, f 61, f 62, f 63, f 64, f 65, f 66, f 67, f 68, f 69, f 70, f 71, f 72, f 73, f 74, f 75, f 76, f 77, f 78, f 79, f 80, f 81, f 82, f 83, f 84, f 85, f 86, f 87, f 88, f 89, f 90, f 91, f 92, f 93, f 94, f 95, f 96, f 97, f 98, f 99, f 100, f 101, f 102, f 103, f 104, f 105, f 106, f 107, f 108, f 109, f 110], []⟩ _
    simp only at h0 h1 h2 h7 h8 h9 h10 h11 h12
    simp only [h0, h1, h2, h7, h8, h9, h10, h11, h12]
    clear h0 h1 h2 h7 h8 h9 h10 h11 h12
    replace hQ := hQ.out rfl
    replace hQ : Hid (∀ a, At 111 [(0, .slice pa A.length ca), (1, .slice pb B.length cb), (2, .int .i64 (2 : Nat)), (7, .slice (some ⟨ge, oe, none⟩) E.length ce), (8, vo), (9, .int .i64 (i : Nat))] a → Q (.exit 1) a w) := hQ
    clear hK
    change Code.wp _ (Code.seq (hd (sq 3 in20)) (Code.seq (hd (sq 4 in20)) (Code.seq (hd (sq 5 in20)) (sq 6 in20)))) _ _ _
    generalize sq 6 in20 = REST
    conv => arg 2; arg 1; whnf
    conv => arg 2; arg 2; arg 1; whnf
    conv => arg 2; arg 2; arg 2; arg 1; whnf
    go_wp2
    exact hQ.out _ ⟨rfl, rfl, rfl, rfl, rfl, rfl, rfl, rfl, trivial⟩
  · obtain ⟨f, rfl, h0, h1, h2, h7, h8, h9, h10, h11, h12, -⟩ := ha.lit
    change Code.wp _ _ _ ⟨#[f 0, f 1, f 2, f 3, f 4, f 5, f 6, f 7, f 8, f 9, f 10, f 11, f 12, f 13, f 14, f 15, f 16, f 17, f 18, f 19, f 20, f 21, f 22, f 23, f 24, f 25, f 26, f 27, f 28, f 29, f 30, f 31, f 32, f 33, f 34, f 35, f 36, f 37, f 38, f 39, f 40, f 41, f 42, f 43, f 44, f 45, f 46, f 47, f 48, f 49, f 50, f 51, f 52, f 53, f 54, f 55, f 56, f 57, f 58, f 59, f 60, f 61, f 62, f 63, f 64, f 65, f 66, f 67, f 68, f 69, f 70, f 71, f 72, f 73, f 74, f 75, f 76, f 77, f 78, f 79, f 80, f 81, f 82, f 83, f 84, f 85, f 86, f 87, f 88, f 89, f 90, f 91, f 92, f 93, f 94, f 95, f 96, f 97, f 98, f 99, f 100, f 101, f 102, f 103, f 104, f 105, f 106, f 107, f 108, f 109, f 110], []⟩ _
    simp only at h0 h1 h2 h7 h8 h9 h10 h11 h12
    simp only [h0, h1, h2, h7, h8, h9, h10, h11, h12]
    clear h0 h1 h2 h7 h8 h9 h10 h11 h12
    replace hK := hK.out rfl
    replace hK : Hid (∀ a, At 111 [(0, .slice pa A.length ca), (1, .slice pb B.length cb), (2, .int .i64 (2 : Nat)), (7, .slice (some ⟨ge, oe, none⟩) E.length ce), (8, vo), (9, .int .i64 (i : Nat)), (10, .int .i32 to)] a → Code.wp Try.prog (sq 6 in20) Q a w) := hK
    clear hQ
    change Code.wp _ (Code.seq (hd (sq 3 in20)) (Code.seq (hd (sq 4 in20)) (Code.seq (hd (sq 5 in20)) (sq 6 in20)))) _ _ _
    generalize sq 6 in20 = REST at hK ⊢
    conv => arg 2; arg 1; whnf
    conv => arg 2; arg 2; arg 1; whnf
    conv => arg 2; arg 2; arg 2; arg 1; whnf
    go_wp2
    exact hK.out _ ⟨rfl, rfl, rfl, rfl, rfl, rfl, rfl, rfl, rfl, trivial⟩
  · obtain ⟨f, rfl, h0, h1, h2, h7, h8, h9, h10, h11, h12, -⟩ := ha.lit
    change Code.wp _ _ _ ⟨#[f 0, f 1, f 2, f 3, f 4, f 5, f 6, f 7, f 8, f 9, f 10, f 11, f 12, f 13, f 14, f 15, f 16, f 17, f 18, f 19, f 20, f 21, f 22, f 23, f 24, f 25, f 26, f 27, f 28, f 29, f 30, f 31, f 32, f 33, f 34, f 35, f 36, f 37, f 38, f 39, f 40, f 41, f 42, f 43, f 44, f 45, f 46, f 47, f 48, f 49, f 50, f 51, f 52, f 53, f 54, f 55, f 56, f 57, f 58, f 59, f 60, f 61, f 62, f 63, f 64, f 65, f 66, f 67, f 68, f 69, f 70, f 71, f 72, f 73, f 74, f 75, f 76, f 77, f 78, f 79, f 80, f 81, f 82, f 83, f 84, f 85, f 86, f 87, f 88, f 89, f 90, f 91, f 92, f 93, f 94, f 95, f 96, f 97, f 98, f 99, f 100, f 101, f 102, f 103, f 104, f 105, f 106, f 107, f 108, f 109, f 110], []⟩ _
    simp only at h0 h1 h2 h7 h8 h9 h10 h11 h12
    simp only [h0, h1, h2, h7, h8, h9, h10, h11, h12]
    clear h0 h1 h2 h7 h8 h9 h10 h11 h12
    replace hQ := hQ.out rfl
    replace hQ : Hid (∀ a, At 111 [(0, .slice pa A.length ca), (1, .slice pb B.length cb), (2, .int .i64 (2 : Nat)), (7, .slice (some ⟨ge, oe, none⟩) E.length ce), (8, vo), (9, .int .i64 (i : Nat))] a → Q (.exit 1) a w) := hQ
    clear hK
    change Code.wp _ (Code.seq (hd (sq 3 in20)) (Code.seq (hd (sq 4 in20)) (Code.seq (hd (sq 5 in20)) (sq 6 in20)))) _ _ _
    generalize sq 6 in20 = REST
    conv => arg 2; arg 1; whnf
    conv => arg 2; arg 2; arg 1; whnf
    conv => arg 2; arg 2; arg 2; arg 1; whnf
    go_wp2
    exact hQ.out _ ⟨rfl, rfl, rfl, rfl, rfl, rfl, rfl, rfl, trivial⟩
  · obtain ⟨f, rfl, h0, h1, h2, h7, h8, h9, h10, h11, h12, -⟩ := ha.lit
    change Code.wp _ _ _ ⟨#[f 0, f 1, f 2, f 3, f 4, f 5, f 6, f 7, f 8, f 9, f 10, f 11, f 12, f 13, f 14, f 15, f 16, f 17, f 18, f 19, f 20, f 21, f 22, f 23, f 24, f 25, f 26, f 27, f 28, f 29, f 30, f 31, f 32, f 33, f 34, f 35, f 36, f 37, f 38, f 39, f 40, f 41, f 42, f 43, f 44, f 45, f 46, f 47, f 48, f 49, f 50, f 51, f 52, f 53, f 54, f 55, f 56, f 57, f 58, f 59, f 60, f 61, f 62, f 63, f 64, f 65, f 66, f 67, f 68, f 69, f 70, f 71, f 72, f 73, f 74, f 75, f 76, f 77, f 78, f 79, f 80, f 81, f 82, f 83, f 84, f 85, f 86, f 87, f 88, f 89, f 90, f 91, f 92, f 93, f 94, f 95, f 96, f 97, f 98, f 99, f 100, f 101, f 102, f 103, f 104, f 105, f 106, f 107, f 108, f 109, f 110], []⟩ _
    simp only at h0 h1 h2 h7 h8 h9 h10 h11 h12
    simp only [h0, h1, h2, h7, h8, h9, h10, h11, h12]
    clear h0 h1 h2 h7 h8 h9 h10 h11 h12
    replace hK := hK.out rfl
    replace hK : Hid (∀ a, At 111 [(0, .slice pa A.length ca), (1, .slice pb B.length cb), (2, .int .i64 (3 : Nat)), (7, .slice (some ⟨ge, oe, none⟩) E.length ce), (8, vo), (9, .int .i64 (i : Nat)), (10, .int .i32 to)] a → Code.wp Try.prog (sq 6 in20) Q a w) := hK
    clear hQ
    change Code.wp _ (Code.seq (hd (sq 3 in20)) (Code.seq (hd (sq 4 in20)) (Code.seq (hd (sq 5 in20)) (sq 6 in20)))) _ _ _
    generalize sq 6 in20 = REST at hK ⊢
    conv => arg 2; arg 1; whnf
    conv => arg 2; arg 2; arg 1; whnf
    conv => arg 2; arg 2; arg 2; arg 1; whnf
    go_wp2
    exact hK.out _ ⟨rfl, rfl, rfl, rfl, rfl, rfl, rfl, rfl, rfl, trivial⟩
  · obtain ⟨f, rfl, h0, h1, h2, h7, h8, h9, h10, h11, h12, -⟩ := ha.lit
    change Code.wp _ _ _ ⟨#[f 0, f 1, f 2, f 3, f 4, f 5, f 6, f 7, f 8, f 9, f 10, f 11, f 12, f 13, f 14, f 15, f 16, f 17, f 18, f 19, f 20, f 21, f 22, f 23, f 24, f 25, f 26, f 27, f 28, f 29, f 30, f 31, f 32, f 33, f 34, f 35, f 36, f 37, f 38, f 39, f 40, f 41, f 42, f 43, f 44, f 45, f 46, f 47, f 48, f 49, f 50, f 51, f 52, f 53, f 54, f 55, f 56, f 57, f 58, f 59, f 60, f 61, f 62, f 63, f 64, f 65, f 66, f 67, f 68, f 69, f 70, f 71, f 72, f 73, f 74, f 75, f 76, f 77, f 78, f 79, f 80, f 81, f 82, f 83, f 84, f 85, f 86, f 87, f 88, f 89, f 90, f 91, f 92, f 93, f 94, f 95, f 96, f 97, f 98, f 99, f 100, f 101, f 102, f 103, f 104, f 105, f 106, f 107, f 108, f 109, f 110], []⟩ _
    simp only at h0 h1 h2 h7 h8 h9 h10 h11 h12
    simp only [h0, h1, h2, h7, h8, h9, h10, h11, h12]
    clear h0 h1 h2 h7 h8 h9 h10 h11 h12
    replace hQ := hQ.out rfl
    replace hQ : Hid (∀ a, At 111 [(0, .slice pa A.length ca), (1, .slice pb B.length cb), (2, .int .i64 (3 : Nat)), (7, .slice (some ⟨ge, oe, none⟩) E.length ce), (8, vo), (9, .int .i64 (i : Nat))] a → Q (.exit 1) a w) := hQ
    clear hK
    change Code.wp _ (Code.seq (hd (sq 3 in20)) (Code.seq (hd (sq 4 in20)) (Code.seq (hd (sq 5 in20)) (sq 6 in20)))) _ _ _
    generalize sq 6 in20 = REST
    conv => arg 2; arg 1; whnf
    conv => arg 2; arg 2; arg 1; whnf
    conv => arg 2; arg 2; arg 2; arg 1; whnf
    go_wp2
    exact hQ.out _ ⟨rfl, rfl, rfl, rfl, rfl, rfl, rfl, rfl, trivial⟩
  · obtain ⟨f, rfl, h0, h1, h2, h7, h8, h9, h10, h11, h12, -⟩ := ha.lit
    change Code.wp _ _ _ ⟨#[f 0, f 1, f 2, f 3, f 4, f 5, f 6, f 7, f 8, f 9, f 10, f 11, f 12, f 13, f 14, f 15, f 16, f 17, f 18, f 19, f 20, f 21, f 22, f 23, f 24, f 25, f 26, f 27, f 28, f 29, f 30, f 31, f 32, f 33, f 34, f 35, f 36, f 37, f 38, f 39, f 40, f 41, f 42, f 43, f 44, f 45, f 46, f 47, f 48, f 49, f 50, f 51, f 52, f 53, f 54, f 55, f 56, f 57, f 58, f 59, f 60, f 61, f 62, f 63, f 64, f 65, f 66, f 67, f 68, f 69, f 70, f 71, f 72, f 73, f 74, f 75, f 76, f 77, f 78, f 79, f 80, f 81, f 82, f 83, f 84, f 85, f 86, f 87, f 88, f 89, f 90, f 91, f 92, f 93, f 94, f 95, f 96, f 97, f 98, f 99, f 100, f 101, f 102, f 103, f 104, f 105, f 106, f 107, f 108, f 109, f 110], []⟩ _
    simp only at h0 h1 h2 h7 h8 h9 h10 h11 h12
    simp only [h0, h1, h2, h7, h8, h9, h10, h11, h12]
    clear h0 h1 h2 h7 h8 h9 h10 h11 h12
    replace hQ := hQ.out rfl
    replace hQ : Hid (∀ a, At 111 [(0, .slice pa A.length ca), (1, .slice pb B.length cb), (2, .int .i64 (3 : Nat)), (7, .slice (some ⟨ge, oe, none⟩) E.length ce), (8, vo), (9, .int .i64 (i : Nat))] a → Q (.exit 1) a w) := hQ
    clear hK
    change Code.wp _ (Code.seq (hd (sq 3 in20)) (Code.seq (hd (sq 4 in20)) (Code.seq (hd (sq 5 in20)) (sq 6 in20)))) _ _ _
    generalize sq 6 in20 = REST
    conv => arg 2; arg 1; whnf
    conv => arg 2; arg 2; arg 1; whnf
    conv => arg 2; arg 2; arg 2; arg 1; whnf
    go_wp2
    exact hQ.out _ ⟨rfl, rfl, rfl, rfl, rfl, rfl, rfl, rfl, trivial⟩
  · obtain ⟨f, rfl, h0, h1, h2, h7, h8, h9, h10, h11, h12, -⟩ := ha.lit
    change Code.wp _ _ _ ⟨#[f 0, f 1, f 2, f 3, f 4, f 5, f 6, f 7, f 8, f 9, f 10, f 11, f 12, f 13, f 14, f 15, f 16, f 17, f 18, f 19, f 20, f 21, f 22, f 23, f 24, f 25, f 26, f 27, f 28, f 29, f 30, f 31, f 32, f 33, f 34, f 35, f 36, f 37, f 38, f 39, f 40, f 41, f 42, f 43, f 44, f 45, f 46, f 47, f 48, f 49, f 50, f 51, f 52, f 53, f 54, f 55, f 56, f 57, f 58, f 59, f 60, f 61, f 62, f 63, f 64, f 65, f 66, f 67, f 68, f 69, f 70, f 71, f 72, f 73, f 74, f 75, f 76, f 77, f 78, f 79, f 80, f 81, f 82, f 83, f 84, f 85, f 86, f 87, f 88, f 89, f 90, f 91, f 92, f 93, f 94, f 95, f 96, f 97, f 98, f 99, f 100, f 101, f 102, f 103, f 104, f 105, f 106, f 107, f 108, f 109, f 110], []⟩ _
    simp only at h0 h1 h2 h7 h8 h9 h10 h11 h12
    simp only [h0, h1, h2, h7, h8, h9, h10, h11, h12]
    clear h0 h1 h2 h7 h8 h9 h10 h11 h12
    replace hQ := hQ.out rfl
    replace hQ : Hid (∀ a, At 111 [(0, .slice pa A.length ca), (1, .slice pb B.length cb), (2, .int .i64 (3 : Nat)), (7, .slice (some ⟨ge, oe, none⟩) E.length ce), (8, vo), (9, .int .i64 (i : Nat))] a → Q (.exit 1) a w) := hQ
    clear hK
    change Code.wp _ (Code.seq (hd (sq 3 in20)) (Code.seq (hd (sq 4 in20)) (Code.seq (hd (sq 5 in20)) (sq 6 in20)))) _ _ _
    generalize sq 6 in20 = REST
    conv => arg 2; arg 1; whnf
    conv => arg 2; arg 2; arg 1; whnf
    conv => arg 2; arg 2; arg 2; arg 1; whnf
    go_wp2
    exact hQ.out _ ⟨rfl, rfl, rfl, rfl, rfl, rfl, rfl, rfl, trivial⟩
set_option maxRecDepth 100000 in
set_option maxHeartbeats 2000000 in
theorem put_C0 {Q : Exit → Act → World → Prop} (A B : List Sn) (E : List Int) (pa pb : Option Addr) (ca cb ge oe ce way i D : Nat) (o : List Sn) (e to : Int) (a : Act) (w : World) (po : Option Addr) (co : Nat) (ho : o = []) (hD : D ≤ w.heap.size) (hi : i < E.length) (hO : Hid (w.ownsRow D 58 2 (.slice po 0 co) 0 (celS o)))
    (hE : Hid (∀ w1 : World, Below w.heap.size w w1 → w1.cell? ⟨ge, oe + i, none⟩ = some (.int .i32 e)))
    (hQ : Hid (∀ a w' vo', Below D w w' → w'.ownsRow D 58 2 vo' (glue o (e, to)).length (celS (glue o (e, to))) → At 111 [(0, .slice pa A.length ca), (1, .slice pb B.length cb), (2, .int .i64 (way : Nat)), (7, .slice (some ⟨ge, oe, none⟩) E.length ce), (8, vo'), (9, .int .i64 (i : Nat))] a → Q .normal a w')) (ha : At 111 [(0, .slice pa A.length ca), (1, .slice pb B.length cb), (2, .int .i64 (way : Nat)), (7, .slice (some ⟨ge, oe, none⟩) E.length ce), (8, .slice po 0 co), (9, .int .i64 (i : Nat)), (10, .int .i32 to)] a) : Code.wp Try.prog (sq 6 in20) Q a w := by
  obtain ⟨i0, hi0, hz0, hz1, hz2⟩ := info_parts info58
  have hi1 : (i : Int) < (E.length : Int) := by omega
  obtain ⟨f, rfl, h0, h1, h2, h7, h8, h9, h10, -⟩ := ha.lit
  change Code.wp _ _ _ ⟨#[f 0, f 1, f 2, f 3, f 4, f 5, f 6, f 7, f 8, f 9, f 10, f 11, f 12, f 13, f 14, f 15, f 16, f 17, f 18, f 19, f 20, f 21, f 22, f 23, f 24, f 25, f 26, f 27, f 28, f 29, f 30, f 31, f 32, f 33, f 34, f 35, f 36, f 37, f 38, f 39, f 40, f 41, f 42, f 43, f 44, f 45, f 46, f 47, f 48, f 49, f 50, f 51, f 52, f 53, f 54, f 55, f 56, f 57, f 58, f 59, f 60, f 61, f 62, f 63, f 64, f 65, f 66, f 67, f 68, f 69, f 70, f 71, f 72, f 73, f 74, f 75, f 76, f 77, f 78, f 79, f 80, f 81, f 82, f 83, f 84, f 85, f 86, f 87, f 88, f 89, f 90, f 91, f 92, f 93, f 94, f 95, f 96, f 97, f 98, f 99, f 100, f 101, f 102, f 103, f 104, f 105, f 106, f 107, f 108, f 109, f 110], []⟩ _
  simp only at h0 h1 h2 h7 h8 h9 h10
  simp only [h0, h1, h2, h7, h8, h9, h10]
  clear h0 h1 h2 h7 h8 h9 h10
  conv => arg 2; whnf
  have HJ : Hid (glue o (e, to) = o ++ [(e, to)]) := by rw [Hid, ho]; rfl
  have LL : o.length = 0 := by rw [ho]; rfl
  clear ho
  go_wp2_with fail
  refine wp_region_vals (a1 := ?a1r20n3) (grown _) [.int .i64 0, .bool false, .bool false, undef, undef, undef, undef, undef, undef, undef, undef, undef, undef, undef, undef, .bool false] 111 rfl (by kernel_rfl) (by kernel_rfl) (grown_start _) ⟨?o0r20n3, ?o1r20n3, ?o2r20n3, ?o3r20n3, ?o4r20n3, ?o5r20n3, ?o6r20n3, ?o7r20n3, ?o8r20n3, ?o9r20n3, ?o10r20n3, ?o11r20n3, ?o12r20n3, ?o13r20n3, ?o14r20n3, ?o15r20n3, trivial⟩ ?har20n3 ?hdoner20n3
  case har20n3 => simp [putAll, Act.put]; exact rfl
  case o0r20n3 => exact ValOp.pure (grown_steady _ 0) [(14, .int .i64 0)] rfl (fun _ _ h2 => ⟨(h2 14 (by kernel_rfl)).trans rfl, trivial⟩) (by kernel_rfl) (fun _ _ _ _ _ => by kernel_rfl)
  case o1r20n3 => exact ValOp.pure (grown_steady _ 1) [(79, .int .i64 0)] rfl (fun _ h1 _ => ⟨h1 0 79 (by kernel_rfl), trivial⟩) (by kernel_rfl) (fun _ _ _ _ _ => run_bin (a := .int .i64 0) (b := .int .i64 0) rfl rfl rfl (by kernel_rfl) (by simp [go_sem]))
  case o2r20n3 => exact ValOp.pure (grown_steady _ 2) [(80, .bool false)] rfl (fun _ h1 _ => ⟨h1 1 80 (by kernel_rfl), trivial⟩) (by kernel_rfl) (fun _ _ _ _ _ => by kernel_rfl)
  case o3r20n3 => exact ValOp.no (grown_steady _ 3) (.inl ⟨81, _, rfl, rfl, by kernel_rfl, rfl⟩) rfl
  case o4r20n3 => exact ValOp.no (grown_steady _ 4) (.inl ⟨81, _, rfl, rfl, by kernel_rfl, rfl⟩) rfl
  case o5r20n3 => exact ValOp.no (grown_steady _ 5) (.inl ⟨81, _, rfl, rfl, by kernel_rfl, rfl⟩) rfl
  case o6r20n3 => exact ValOp.no (grown_steady _ 6) (.inl ⟨81, _, rfl, rfl, by kernel_rfl, rfl⟩) rfl
  case o7r20n3 => exact ValOp.no (grown_steady _ 7) (.inl ⟨81, _, rfl, rfl, by kernel_rfl, rfl⟩) rfl
  case o8r20n3 => exact ValOp.no (grown_steady _ 8) (.inl ⟨81, _, rfl, rfl, by kernel_rfl, rfl⟩) rfl
  case o9r20n3 => exact ValOp.no (grown_steady _ 9) (.inl ⟨81, _, rfl, rfl, by kernel_rfl, rfl⟩) rfl
  case o10r20n3 => exact ValOp.no (grown_steady _ 10) (.inl ⟨81, _, rfl, rfl, by kernel_rfl, rfl⟩) rfl
  case o11r20n3 => exact ValOp.no (grown_steady _ 11) (.inl ⟨81, _, rfl, rfl, by kernel_rfl, rfl⟩) rfl
  case o12r20n3 => exact ValOp.no (grown_steady _ 12) (.inl ⟨81, _, rfl, rfl, by kernel_rfl, rfl⟩) rfl
  case o13r20n3 => exact ValOp.no (grown_steady _ 13) (.inl ⟨81, _, rfl, rfl, by kernel_rfl, rfl⟩) rfl
  case o14r20n3 => exact ValOp.no (grown_steady _ 14) (.inl ⟨81, _, rfl, rfl, by kernel_rfl, rfl⟩) rfl
  case o15r20n3 => exact ValOp.pure (grown_steady _ 15) [(81, .bool false), (93, undef)] rfl (fun _ h1 _ => ⟨h1 2 81 (by kernel_rfl), h1 14 93 (by kernel_rfl), trivial⟩) (by kernel_rfl) (fun _ _ _ _ _ => by kernel_rfl)
  case hdoner20n3 =>
    intro w1 s1 hs1 hg1
    have e1 := hE.out _ hg1
    have hO1 : Hid (w1.ownsRow D 58 2 (.slice po 0 co) 0 (celS o)) := owns_below hO.out hg1
    have B1 : Hid (Below D w w1) := Below.mono hg1 hD
    have hcn : Hid _ := cells_new w1 #[.int .i32 e, .int .i32 to] 58
    have hw1 := B1.out.size
    clear hg1 hs1
    go_wp2_with (at_builtin; go_must (refine wpList_append_own _ rfl _ _ 23 rfl D 58 i0 _ 2 8 Try.underlying23 hi0 hz0 hz1 hz2 rfl (by decide) _ _ _ rfl (hO1.out.alloc _) ⟨_, 0, none⟩ 1 1 [.int .i32 e, .int .i32 to] rfl rfl hcn.out (by simp [Value.oneCell']) (by unfold maxLen; omega) (by omega) (by simp; omega) ?_))
    intro v' w2 hown' hgrow _
    have B2 : Hid (Below D w w2) := (B1.out.alloc (by omega) _).grown hgrow (by simp; omega) (fun j hj => (hO1.out.lt j hj).1)
    have O2 : Hid (w2.ownsRow D 58 2 v' (glue o (e, to)).length (celS (glue o (e, to)))) := by rw [Hid, HJ.out, List.length_append, celS_snoc, LL]; exact hown'
    clear hown' hgrow hcn hO1
    go_wp2
    exact hQ.out _ _ _ B2.out O2.out ⟨rfl, rfl, rfl, rfl, rfl, rfl, rfl, rfl, trivial⟩
set_option maxRecDepth 100000 in
set_option maxHeartbeats 2000000 in
theorem put_C1 {Q : Exit → Act → World → Prop} (A B : List Sn) (E : List Int) (pa pb : Option Addr) (ca cb ge oe ce way i D : Nat) (o : List Sn) (e to : Int) (a : Act) (w : World) (g m co : Nat) (t2 : Int) (hm : m < 1099511627776) (ho : o.length = m + 1) (ht0 : -2 ≤ t2 ∧ t2 ≤ 1114111) (hT0 : Hid (w.cell? ⟨g, 0 + m * 2 + 1, none⟩ = some (.int .i32 t2))) (hne : (t2 + 1 == e) = false) (hJ : glue o (e, to) = o ++ [(e, to)]) (hD : D ≤ w.heap.size) (hi : i < E.length) (hO : Hid (w.ownsRow D 58 2 (.slice (some ⟨g, 0, none⟩) (m + 1) co) (m + 1) (celS o)))
    (hE : Hid (∀ w1 : World, Below w.heap.size w w1 → w1.cell? ⟨ge, oe + i, none⟩ = some (.int .i32 e)))
    (hQ : Hid (∀ a w' vo', Below D w w' → w'.ownsRow D 58 2 vo' (glue o (e, to)).length (celS (glue o (e, to))) → At 111 [(0, .slice pa A.length ca), (1, .slice pb B.length cb), (2, .int .i64 (way : Nat)), (7, .slice (some ⟨ge, oe, none⟩) E.length ce), (8, vo'), (9, .int .i64 (i : Nat))] a → Q .normal a w')) (ha : At 111 [(0, .slice pa A.length ca), (1, .slice pb B.length cb), (2, .int .i64 (way : Nat)), (7, .slice (some ⟨ge, oe, none⟩) E.length ce), (8, .slice (some ⟨g, 0, none⟩) (m + 1) co), (9, .int .i64 (i : Nat)), (10, .int .i32 to)] a) : Code.wp Try.prog (sq 6 in20) Q a w := by
  obtain ⟨i0, hi0, hz0, hz1, hz2⟩ := info_parts info58
  have hi1 : (i : Int) < (E.length : Int) := by omega
  obtain ⟨f, rfl, h0, h1, h2, h7, h8, h9, h10, -⟩ := ha.lit
  change Code.wp _ _ _ ⟨#[f 0, f 1, f 2, f 3, f 4, f 5, f 6, f 7, f 8, f 9, f 10, f 11, f 12, f 13, f 14, f 15, f 16, f 17, f 18, f 19, f 20, f 21, f 22, f 23, f 24, f 25, f 26, f 27, f 28, f 29, f 30, f 31, f 32, f 33, f 34, f 35, f 36, f 37, f 38, f 39, f 40, f 41, f 42, f 43, f 44, f 45, f 46, f 47, f 48, f 49, f 50, f 51, f 52, f 53, f 54, f 55, f 56, f 57, f 58, f 59, f 60, f 61, f 62, f 63, f 64, f 65, f 66, f 67, f 68, f 69, f 70, f 71, f 72, f 73, f 74, f 75, f 76, f 77, f 78, f 79, f 80, f 81, f 82, f 83, f 84, f 85, f 86, f 87, f 88, f 89, f 90, f 91, f 92, f 93, f 94, f 95, f 96, f 97, f 98, f 99, f 100, f 101, f 102, f 103, f 104, f 105, f 106, f 107, f 108, f 109, f 110], []⟩ _
  simp only at h0 h1 h2 h7 h8 h9 h10
  simp only [h0, h1, h2, h7, h8, h9, h10]
  clear h0 h1 h2 h7 h8 h9 h10
  conv => arg 2; whnf
  have hT : Hid (∀ w1 : World, Below w.heap.size w w1 → w1.cell? ⟨g, 0 + m * 2 + 1, none⟩ = some (.int .i32 t2)) := fun w1 hb => (hb.cell (p := ⟨g, 0 + m * 2 + 1, none⟩) (by simpa using World.block_lt_of_cell? w _ hT0.out)).trans hT0.out
  have hm0 : (0 : Int) < (m : Int) + 1 := by omega
  have hm1 : IntKind.i64.wrap (m : Int) = (m : Int) := IntWalk.i64_in _ (by omega)
  have ht1 : IntKind.i32.wrap (t2 + 1) = t2 + 1 := IntWalk.i32_in _ (by omega)
  have HJ : Hid _ := hJ
  have LL : Hid _ := ho
  have heq : (t2 + 1 == e) = false := hne
  clear hJ ho hT0 hne
  go_wp2_with fail
  refine wp_region_vals (a1 := ?a1r20n4) (grown _) [.int .i64 ((m : Int) + 1), .bool true, .bool true, .slice (some ⟨g, 0, none⟩) (m + 1) (co), .int .i64 ((m : Int) + 1), .int .i64 (m : Int), .pointer (some ⟨g, 0 + m * 2, none⟩), .pointer (some ⟨g, 0 + m * 2 + 1, none⟩), .int .i32 t2, .int .i32 (t2 + 1), .slice (some ⟨ge, oe, none⟩) (E.length) (ce), .int .i64 (i : Int), .pointer (some ⟨ge, oe + i, none⟩), .int .i32 e, .bool false, .bool false] 111 rfl (by kernel_rfl) (by kernel_rfl) (grown_start _) ⟨?o0r20n4, ?o1r20n4, ?o2r20n4, ?o3r20n4, ?o4r20n4, ?o5r20n4, ?o6r20n4, ?o7r20n4, ?o8r20n4, ?o9r20n4, ?o10r20n4, ?o11r20n4, ?o12r20n4, ?o13r20n4, ?o14r20n4, ?o15r20n4, trivial⟩ ?har20n4 ?hdoner20n4
  case har20n4 => simp [putAll, Act.put]; exact rfl
  case o0r20n4 => exact ValOp.pure (grown_steady _ 0) [(14, .int .i64 ((m : Int) + 1))] rfl (fun _ _ h2 => ⟨(h2 14 (by kernel_rfl)).trans rfl, trivial⟩) (by kernel_rfl) (fun _ _ _ _ _ => by kernel_rfl)
  case o1r20n4 => exact ValOp.pure (grown_steady _ 1) [(79, .int .i64 ((m : Int) + 1))] rfl (fun _ h1 _ => ⟨h1 0 79 (by kernel_rfl), trivial⟩) (by kernel_rfl) (fun _ _ _ _ _ => run_bin (a := .int .i64 ((m : Int) + 1)) (b := .int .i64 0) rfl rfl rfl (by kernel_rfl) (by simp [go_sem, hm0]))
  case o2r20n4 => exact ValOp.pure (grown_steady _ 2) [(80, .bool true)] rfl (fun _ h1 _ => ⟨h1 1 80 (by kernel_rfl), trivial⟩) (by kernel_rfl) (fun _ _ _ _ _ => by kernel_rfl)
  case o3r20n4 => exact ValOp.pure (grown_steady _ 3) [(8, .slice (some ⟨g, 0, none⟩) (m + 1) (co))] (.inl ⟨81, _, rfl, rfl, by kernel_rfl, rfl⟩) (fun _ _ h2 => ⟨(h2 8 (by kernel_rfl)).trans rfl, trivial⟩) (by kernel_rfl) (fun _ _ _ _ _ => by kernel_rfl)
  case o4r20n4 => exact ValOp.pure (grown_steady _ 4) [(14, .int .i64 ((m : Int) + 1))] (.inl ⟨81, _, rfl, rfl, by kernel_rfl, rfl⟩) (fun _ _ h2 => ⟨(h2 14 (by kernel_rfl)).trans rfl, trivial⟩) (by kernel_rfl) (fun _ _ _ _ _ => by kernel_rfl)
  case o5r20n4 => exact ValOp.pure (grown_steady _ 5) [(83, .int .i64 ((m : Int) + 1))] (.inl ⟨81, _, rfl, rfl, by kernel_rfl, rfl⟩) (fun _ h1 _ => ⟨h1 4 83 (by kernel_rfl), trivial⟩) (by kernel_rfl) (fun _ _ _ _ _ => run_bin (a := .int .i64 ((m : Int) + 1)) (b := .int .i64 1) rfl rfl rfl (by kernel_rfl) (by simp [go_sem, hm1]))
  case o6r20n4 => exact ValOp.pure (grown_steady _ 6) [(82, .slice (some ⟨g, 0, none⟩) (m + 1) (co)), (84, .int .i64 (m : Int))] (.inl ⟨81, _, rfl, rfl, by kernel_rfl, rfl⟩) (fun _ h1 _ => ⟨h1 3 82 (by kernel_rfl), h1 5 84 (by kernel_rfl), trivial⟩) (by kernel_rfl) (fun _ _ _ hg _ => run_ia_23 rfl rfl rfl (Nat.lt_succ_self m))
  case o7r20n4 => exact ValOp.pure (grown_steady _ 7) [(85, .pointer (some ⟨g, 0 + m * 2, none⟩))] (.inl ⟨81, _, rfl, rfl, by kernel_rfl, rfl⟩) (fun _ h1 _ => ⟨h1 6 85 (by kernel_rfl), trivial⟩) (by kernel_rfl) (fun _ _ _ _ _ => by kernel_rfl)
  case o8r20n4 => exact ValOp.pure (grown_steady _ 8) [(86, .pointer (some ⟨g, 0 + m * 2 + 1, none⟩))] (.inl ⟨81, _, rfl, rfl, by kernel_rfl, rfl⟩) (fun _ h1 _ => ⟨h1 7 86 (by kernel_rfl), trivial⟩) (by kernel_rfl) (fun _ _ _ hg _ => run_read rfl rfl (run_l21 (hT.out _ hg)))
  case o9r20n4 => exact ValOp.pure (grown_steady _ 9) [(87, .int .i32 t2)] (.inl ⟨81, _, rfl, rfl, by kernel_rfl, rfl⟩) (fun _ h1 _ => ⟨h1 8 87 (by kernel_rfl), trivial⟩) (by kernel_rfl) (fun _ _ _ _ _ => run_bin (a := .int .i32 t2) (b := .int .i32 1) rfl rfl rfl (by kernel_rfl) (by simp [go_sem, ht1]))
  case o10r20n4 => exact ValOp.pure (grown_steady _ 10) [(7, .slice (some ⟨ge, oe, none⟩) (E.length) (ce))] (.inl ⟨81, _, rfl, rfl, by kernel_rfl, rfl⟩) (fun _ _ h2 => ⟨(h2 7 (by kernel_rfl)).trans rfl, trivial⟩) (by kernel_rfl) (fun _ _ _ _ _ => by kernel_rfl)
  case o11r20n4 => exact ValOp.pure (grown_steady _ 11) [(9, .int .i64 (i : Int))] (.inl ⟨81, _, rfl, rfl, by kernel_rfl, rfl⟩) (fun _ _ h2 => ⟨(h2 9 (by kernel_rfl)).trans rfl, trivial⟩) (by kernel_rfl) (fun _ _ _ _ _ => by kernel_rfl)
  case o12r20n4 => exact ValOp.pure (grown_steady _ 12) [(89, .slice (some ⟨ge, oe, none⟩) (E.length) (ce)), (90, .int .i64 (i : Int))] (.inl ⟨81, _, rfl, rfl, by kernel_rfl, rfl⟩) (fun _ h1 _ => ⟨h1 10 89 (by kernel_rfl), h1 11 90 (by kernel_rfl), trivial⟩) (by kernel_rfl) (fun _ _ _ hg _ => run_ia_65 rfl rfl rfl hi)
  case o13r20n4 => exact ValOp.pure (grown_steady _ 13) [(91, .pointer (some ⟨ge, oe + i, none⟩))] (.inl ⟨81, _, rfl, rfl, by kernel_rfl, rfl⟩) (fun _ h1 _ => ⟨h1 12 91 (by kernel_rfl), trivial⟩) (by kernel_rfl) (fun _ _ _ hg _ => run_read rfl rfl (run_l21 (hE.out _ hg)))
  case o14r20n4 => exact ValOp.pure (grown_steady _ 14) [(88, .int .i32 (t2 + 1)), (92, .int .i32 e)] (.inl ⟨81, _, rfl, rfl, by kernel_rfl, rfl⟩) (fun _ h1 _ => ⟨h1 9 88 (by kernel_rfl), h1 13 92 (by kernel_rfl), trivial⟩) (by kernel_rfl) (fun _ _ _ _ _ => run_bin (a := .int .i32 (t2 + 1)) (b := .int .i32 e) rfl rfl rfl (by kernel_rfl) (by simp [go_sem, heq]))
  case o15r20n4 => exact ValOp.pure (grown_steady _ 15) [(81, .bool true), (93, .bool false)] rfl (fun _ h1 _ => ⟨h1 2 81 (by kernel_rfl), h1 14 93 (by kernel_rfl), trivial⟩) (by kernel_rfl) (fun _ _ _ _ _ => by kernel_rfl)
  case hdoner20n4 =>
    intro w1 s1 hs1 hg1
    have e1 := hE.out _ hg1
    have hO1 : Hid (w1.ownsRow D 58 2 (.slice (some ⟨g, 0, none⟩) (m + 1) co) (m + 1) (celS o)) := owns_below hO.out hg1
    have B1 : Hid (Below D w w1) := Below.mono hg1 hD
    have hcn : Hid _ := cells_new w1 #[.int .i32 e, .int .i32 to] 58
    have hw1 := B1.out.size
    clear hg1 hs1
    go_wp2_with (at_builtin; go_must (refine wpList_append_own _ rfl _ _ 23 rfl D 58 i0 _ 2 8 Try.underlying23 hi0 hz0 hz1 hz2 rfl (by decide) _ _ _ rfl (hO1.out.alloc _) ⟨_, 0, none⟩ 1 1 [.int .i32 e, .int .i32 to] rfl rfl hcn.out (by simp [Value.oneCell']) (by unfold maxLen; omega) (by omega) (by simp; omega) ?_))
    intro v' w2 hown' hgrow _
    have B2 : Hid (Below D w w2) := (B1.out.alloc (by omega) _).grown hgrow (by simp; omega) (fun j hj => (hO1.out.lt j hj).1)
    have O2 : Hid (w2.ownsRow D 58 2 v' (glue o (e, to)).length (celS (glue o (e, to)))) := by rw [Hid, HJ.out, List.length_append, celS_snoc, LL.out]; exact hown'
    clear hown' hgrow hcn hO1
    go_wp2
    exact hQ.out _ _ _ B2.out O2.out ⟨rfl, rfl, rfl, rfl, rfl, rfl, rfl, rfl, trivial⟩
set_option maxRecDepth 100000 in
set_option maxHeartbeats 2000000 in
theorem put_C2 {Q : Exit → Act → World → Prop} (A B : List Sn) (E : List Int) (pa pb : Option Addr) (ca cb ge oe ce way i D : Nat) (o : List Sn) (e to : Int) (a : Act) (w : World) (g m co : Nat) (t2 : Int) (hm : m < 1099511627776) (ho : o.length = m + 1) (ht0 : -2 ≤ t2 ∧ t2 ≤ 1114111) (hT0 : Hid (w.cell? ⟨g, 0 + m * 2 + 1, none⟩ = some (.int .i32 t2))) (he : t2 + 1 = e) (o' : List Sn) (ho' : o'.length = m + 1) (hJ : glue o (e, to) = o') (hC : (celS o).set (m * 2 + 1) (.int .i32 to) = celS o') (hD : D ≤ w.heap.size) (hi : i < E.length) (hO : Hid (w.ownsRow D 58 2 (.slice (some ⟨g, 0, none⟩) (m + 1) co) (m + 1) (celS o)))
    (hE : Hid (∀ w1 : World, Below w.heap.size w w1 → w1.cell? ⟨ge, oe + i, none⟩ = some (.int .i32 e)))
    (hQ : Hid (∀ a w' vo', Below D w w' → w'.ownsRow D 58 2 vo' (glue o (e, to)).length (celS (glue o (e, to))) → At 111 [(0, .slice pa A.length ca), (1, .slice pb B.length cb), (2, .int .i64 (way : Nat)), (7, .slice (some ⟨ge, oe, none⟩) E.length ce), (8, vo'), (9, .int .i64 (i : Nat))] a → Q .normal a w')) (ha : At 111 [(0, .slice pa A.length ca), (1, .slice pb B.length cb), (2, .int .i64 (way : Nat)), (7, .slice (some ⟨ge, oe, none⟩) E.length ce), (8, .slice (some ⟨g, 0, none⟩) (m + 1) co), (9, .int .i64 (i : Nat)), (10, .int .i32 to)] a) : Code.wp Try.prog (sq 6 in20) Q a w := by
  obtain ⟨i0, hi0, hz0, hz1, hz2⟩ := info_parts info58
  have hi1 : (i : Int) < (E.length : Int) := by omega
  obtain ⟨f, rfl, h0, h1, h2, h7, h8, h9, h10, -⟩ := ha.lit
  change Code.wp _ _ _ ⟨#[f 0, f 1, f 2, f 3, f 4, f 5, f 6, f 7, f 8, f 9, f 10, f 11, f 12, f 13, f 14, f 15, f 16, f 17, f 18, f 19, f 20, f 21, f 22, f 23, f 24, f 25, f 26, f 27, f 28, f 29, f 30, f 31, f 32, f 33, f 34, f 35, f 36, f 37, f 38, f 39, f 40, f 41, f 42, f 43, f 44, f 45, f 46, f 47, f 48, f 49, f 50, f 51, f 52, f 53, f 54, f 55, f 56, f 57, f 58, f 59, f 60, f 61, f 62, f 63, f 64, f 65, f 66, f 67, f 68, f 69, f 70, f 71, f 72, f 73, f 74, f 75, f 76, f 77, f 78, f 79, f 80, f 81, f 82, f 83, f 84, f 85, f 86, f 87, f 88, f 89, f 90, f 91, f 92, f 93, f 94, f 95, f 96, f 97, f 98, f 99, f 100, f 101, f 102, f 103, f 104, f 105, f 106, f 107, f 108, f 109, f 110], []⟩ _
  simp only at h0 h1 h2 h7 h8 h9 h10
  simp only [h0, h1, h2, h7, h8, h9, h10]
  clear h0 h1 h2 h7 h8 h9 h10
  conv => arg 2; whnf
  have hT : Hid (∀ w1 : World, Below w.heap.size w w1 → w1.cell? ⟨g, 0 + m * 2 + 1, none⟩ = some (.int .i32 t2)) := fun w1 hb => (hb.cell (p := ⟨g, 0 + m * 2 + 1, none⟩) (by simpa using World.block_lt_of_cell? w _ hT0.out)).trans hT0.out
  have hm0 : (0 : Int) < (m : Int) + 1 := by omega
  have hm1 : IntKind.i64.wrap (m : Int) = (m : Int) := IntWalk.i64_in _ (by omega)
  have ht1 : IntKind.i32.wrap (t2 + 1) = t2 + 1 := IntWalk.i32_in _ (by omega)
  have HJ : Hid _ := hJ
  have LL : Hid _ := ho'
  have HC : Hid _ := hC
  have heq : (t2 + 1 == e) = true := by simp [he]
  clear hJ ho hT0 hC ho' he
  go_wp2_with fail
  refine wp_region_vals (a1 := ?a1r20n5) (grown _) [.int .i64 ((m : Int) + 1), .bool true, .bool true, .slice (some ⟨g, 0, none⟩) (m + 1) (co), .int .i64 ((m : Int) + 1), .int .i64 (m : Int), .pointer (some ⟨g, 0 + m * 2, none⟩), .pointer (some ⟨g, 0 + m * 2 + 1, none⟩), .int .i32 t2, .int .i32 (t2 + 1), .slice (some ⟨ge, oe, none⟩) (E.length) (ce), .int .i64 (i : Int), .pointer (some ⟨ge, oe + i, none⟩), .int .i32 e, .bool true, .bool true] 111 rfl (by kernel_rfl) (by kernel_rfl) (grown_start _) ⟨?o0r20n5, ?o1r20n5, ?o2r20n5, ?o3r20n5, ?o4r20n5, ?o5r20n5, ?o6r20n5, ?o7r20n5, ?o8r20n5, ?o9r20n5, ?o10r20n5, ?o11r20n5, ?o12r20n5, ?o13r20n5, ?o14r20n5, ?o15r20n5, trivial⟩ ?har20n5 ?hdoner20n5
  case har20n5 => simp [putAll, Act.put]; exact rfl
  case o0r20n5 => exact ValOp.pure (grown_steady _ 0) [(14, .int .i64 ((m : Int) + 1))] rfl (fun _ _ h2 => ⟨(h2 14 (by kernel_rfl)).trans rfl, trivial⟩) (by kernel_rfl) (fun _ _ _ _ _ => by kernel_rfl)
  case o1r20n5 => exact ValOp.pure (grown_steady _ 1) [(79, .int .i64 ((m : Int) + 1))] rfl (fun _ h1 _ => ⟨h1 0 79 (by kernel_rfl), trivial⟩) (by kernel_rfl) (fun _ _ _ _ _ => run_bin (a := .int .i64 ((m : Int) + 1)) (b := .int .i64 0) rfl rfl rfl (by kernel_rfl) (by simp [go_sem, hm0]))
  case o2r20n5 => exact ValOp.pure (grown_steady _ 2) [(80, .bool true)] rfl (fun _ h1 _ => ⟨h1 1 80 (by kernel_rfl), trivial⟩) (by kernel_rfl) (fun _ _ _ _ _ => by kernel_rfl)
  case o3r20n5 => exact ValOp.pure (grown_steady _ 3) [(8, .slice (some ⟨g, 0, none⟩) (m + 1) (co))] (.inl ⟨81, _, rfl, rfl, by kernel_rfl, rfl⟩) (fun _ _ h2 => ⟨(h2 8 (by kernel_rfl)).trans rfl, trivial⟩) (by kernel_rfl) (fun _ _ _ _ _ => by kernel_rfl)
  case o4r20n5 => exact ValOp.pure (grown_steady _ 4) [(14, .int .i64 ((m : Int) + 1))] (.inl ⟨81, _, rfl, rfl, by kernel_rfl, rfl⟩) (fun _ _ h2 => ⟨(h2 14 (by kernel_rfl)).trans rfl, trivial⟩) (by kernel_rfl) (fun _ _ _ _ _ => by kernel_rfl)
  case o5r20n5 => exact ValOp.pure (grown_steady _ 5) [(83, .int .i64 ((m : Int) + 1))] (.inl ⟨81, _, rfl, rfl, by kernel_rfl, rfl⟩) (fun _ h1 _ => ⟨h1 4 83 (by kernel_rfl), trivial⟩) (by kernel_rfl) (fun _ _ _ _ _ => run_bin (a := .int .i64 ((m : Int) + 1)) (b := .int .i64 1) rfl rfl rfl (by kernel_rfl) (by simp [go_sem, hm1]))
  case o6r20n5 => exact ValOp.pure (grown_steady _ 6) [(82, .slice (some ⟨g, 0, none⟩) (m + 1) (co)), (84, .int .i64 (m : Int))] (.inl ⟨81, _, rfl, rfl, by kernel_rfl, rfl⟩) (fun _ h1 _ => ⟨h1 3 82 (by kernel_rfl), h1 5 84 (by kernel_rfl), trivial⟩) (by kernel_rfl) (fun _ _ _ hg _ => run_ia_23 rfl rfl rfl (Nat.lt_succ_self m))
  case o7r20n5 => exact ValOp.pure (grown_steady _ 7) [(85, .pointer (some ⟨g, 0 + m * 2, none⟩))] (.inl ⟨81, _, rfl, rfl, by kernel_rfl, rfl⟩) (fun _ h1 _ => ⟨h1 6 85 (by kernel_rfl), trivial⟩) (by kernel_rfl) (fun _ _ _ _ _ => by kernel_rfl)
  case o8r20n5 => exact ValOp.pure (grown_steady _ 8) [(86, .pointer (some ⟨g, 0 + m * 2 + 1, none⟩))] (.inl ⟨81, _, rfl, rfl, by kernel_rfl, rfl⟩) (fun _ h1 _ => ⟨h1 7 86 (by kernel_rfl), trivial⟩) (by kernel_rfl) (fun _ _ _ hg _ => run_read rfl rfl (run_l21 (hT.out _ hg)))
  case o9r20n5 => exact ValOp.pure (grown_steady _ 9) [(87, .int .i32 t2)] (.inl ⟨81, _, rfl, rfl, by kernel_rfl, rfl⟩) (fun _ h1 _ => ⟨h1 8 87 (by kernel_rfl), trivial⟩) (by kernel_rfl) (fun _ _ _ _ _ => run_bin (a := .int .i32 t2) (b := .int .i32 1) rfl rfl rfl (by kernel_rfl) (by simp [go_sem, ht1]))
  case o10r20n5 => exact ValOp.pure (grown_steady _ 10) [(7, .slice (some ⟨ge, oe, none⟩) (E.length) (ce))] (.inl ⟨81, _, rfl, rfl, by kernel_rfl, rfl⟩) (fun _ _ h2 => ⟨(h2 7 (by kernel_rfl)).trans rfl, trivial⟩) (by kernel_rfl) (fun _ _ _ _ _ => by kernel_rfl)
  case o11r20n5 => exact ValOp.pure (grown_steady _ 11) [(9, .int .i64 (i : Int))] (.inl ⟨81, _, rfl, rfl, by kernel_rfl, rfl⟩) (fun _ _ h2 => ⟨(h2 9 (by kernel_rfl)).trans rfl, trivial⟩) (by kernel_rfl) (fun _ _ _ _ _ => by kernel_rfl)
  case o12r20n5 => exact ValOp.pure (grown_steady _ 12) [(89, .slice (some ⟨ge, oe, none⟩) (E.length) (ce)), (90, .int .i64 (i : Int))] (.inl ⟨81, _, rfl, rfl, by kernel_rfl, rfl⟩) (fun _ h1 _ => ⟨h1 10 89 (by kernel_rfl), h1 11 90 (by kernel_rfl), trivial⟩) (by kernel_rfl) (fun _ _ _ hg _ => run_ia_65 rfl rfl rfl hi)
  case o13r20n5 => exact ValOp.pure (grown_steady _ 13) [(91, .pointer (some ⟨ge, oe + i, none⟩))] (.inl ⟨81, _, rfl, rfl, by kernel_rfl, rfl⟩) (fun _ h1 _ => ⟨h1 12 91 (by kernel_rfl), trivial⟩) (by kernel_rfl) (fun _ _ _ hg _ => run_read rfl rfl (run_l21 (hE.out _ hg)))
  case o14r20n5 => exact ValOp.pure (grown_steady _ 14) [(88, .int .i32 (t2 + 1)), (92, .int .i32 e)] (.inl ⟨81, _, rfl, rfl, by kernel_rfl, rfl⟩) (fun _ h1 _ => ⟨h1 9 88 (by kernel_rfl), h1 13 92 (by kernel_rfl), trivial⟩) (by kernel_rfl) (fun _ _ _ _ _ => run_bin (a := .int .i32 (t2 + 1)) (b := .int .i32 e) rfl rfl rfl (by kernel_rfl) (by simp [go_sem, heq]))
  case o15r20n5 => exact ValOp.pure (grown_steady _ 15) [(81, .bool true), (93, .bool true)] rfl (fun _ h1 _ => ⟨h1 2 81 (by kernel_rfl), h1 14 93 (by kernel_rfl), trivial⟩) (by kernel_rfl) (fun _ _ _ _ _ => by kernel_rfl)
  case hdoner20n5 =>
    intro w1 s1 hs1 hg1
    have hO1 : Hid (w1.ownsRow D 58 2 (.slice (some ⟨g, 0, none⟩) (m + 1) co) (m + 1) (celS o)) := owns_below hO.out hg1
    have B1 : Hid (Below D w w1) := Below.mono hg1 hD
    have q3 : w1.cell? ⟨g, m * 2 + 1, none⟩ = some (.int .i32 t2) := by have := hT.out w1 hg1; rwa [Nat.zero_add] at this
    have hz : m * 2 + 1 < (celS o).length := by rw [hO1.out.1]; omega
    obtain ⟨u, hu⟩ : ∃ u, (celS o)[m * 2 + 1]? = some u := ⟨_, List.getElem?_eq_getElem hz⟩
    have q4 := (owns_cell hO1.out rfl _ _ hu).2
    have hBg : Hid (D ≤ g) := (hO1.out.lt g rfl).1
    have O2 := (hO1.out.stored (m * 2 + 1) (.int .i32 to)).1
    have O3 : Hid ((w1.setCell ⟨g, m * 2 + 1, none⟩ (.int .i32 to)).ownsRow D 58 2 (.slice (some ⟨g, 0, none⟩) (m + 1) co) (glue o (e, to)).length (celS (glue o (e, to)))) := by rw [Hid, HJ.out, LL.out, ← HC.out]; exact O2
    have B2 : Hid (Below D w (w1.setCell ⟨g, m * 2 + 1, none⟩ (.int .i32 to))) := B1.out.setCell (p := ⟨g, m * 2 + 1, none⟩) hBg.out _
    clear hg1 hs1 hu O2 hz
    go_wp2
    exact hQ.out _ _ _ B2.out O3.out ⟨rfl, rfl, rfl, rfl, rfl, rfl, rfl, rfl, trivial⟩
end Go.Proofs.Ytddoanmhikldiaa
