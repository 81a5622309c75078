/-
  What the statement of memory asks, walked: nothing that a call hands back, overwritten, changes its arguments or another answer. Conditions: the numbers fit; the lists take no more bytes than there are.
-/
import Derived.Test.YtddoanmhikldiabMl
import Derived.Test.YtddoanmhikldiabUn
import Derived.Test.YtddoanmhikldiabAl
import Derived.Test.YtddoanmhikldiabGv
namespace Go.Proofs.Ytddoanmhikldiab
open Go.RowKit
theorem RdS.far {S : Nat → Prop} {w w1 w2 : World} {v : Value} {L : List Sn} (h : RdS w v L) (hb : Below w.heap.size w w1) (hf : Far S w1 w2) (hs : ∀ k, S k → w.heap.size ≤ k) : RdS w2 v L :=
  h.below (hb.trans (hf.toBelow hb.size hs))
theorem own_far {S : Nat → Prop} {w w1 w2 : World} {b e : Nat} {v : Value} {L : List Sn} (h : w.ownsRow b e 2 v L.length (celS L)) (hb : Below w.heap.size w w1) (hf : Far S w1 w2) (hs : ∀ k, S k → k < b ∨ w.heap.size ≤ k) : RdS w2 v L :=
  RdS.of_owns (owns_same h (fun k hk => by
    have h1 := own_in h hk
    have h2 := hb.size
    exact (hf.block k (by omega) (fun c => by have := hs k c; omega)).trans (hb.block k h1.2)))
theorem puts_len {ok : Bool} {f : Int → Bool} {X : List Sn} {er : Int} (h : PutsP ok f X er) : X.length ≤ 65536 := by
  rcases h with ⟨_, rfl, _⟩ | ⟨_, S, s1, _, _, s4, s5⟩
  · simp
  · by_cases c : S.length ≤ 65536
    · rw [(s4 c).1]; exact c
    · rw [(s5 (by omega)).1]; simp
theorem union_len {Ls : List (List Sn)} {f : Int → Bool} {X : List Sn} {at0 er : Int} (h : UnionP Ls f X at0 er) : X.length ≤ 65536 := by
  rcases h with ⟨_, _, _, _, rfl, _⟩ | ⟨_, _, S, s1, _, _, s4, s5⟩
  · simp
  · by_cases c : S.length ≤ 65536
    · rw [(s4 c).1]; exact c
    · rw [(s5 (by omega)).1]; simp
theorem make_len {A X : List Sn} {i er : Int} (h : MakeP A X i er) (hA : isB A = true) : X.length ≤ 65536 := by
  obtain ⟨la, sa⟩ := isB_iff.1 hA
  rcases h with ⟨_, rfl, _⟩ | ⟨_, _, _, _, _, rfl, _⟩ | ⟨_, _, h2, h3, _, h4⟩
  · simp
  · simp
  · rw [uniq h2 sa h3]; exact la
theorem union2_len (A B : List Sn) (va vb : Value) (g : Nat) (w : World) (h0 : w.cell? ⟨g, 0, none⟩ = some va) (h1 : w.cell? ⟨g, 1, none⟩ = some vb) (ra : RdS w va A) (rb : RdS w vb B) (fa : fitS A) (fb : fitS B) (sa : isB A = true) (sb : isB B = true) : Calls Try.prog 11 #[.slice (some ⟨g, 0, none⟩) 2 2] w fun e w' => ∃ v' X at0 er, e = .returned (.tuple #[v', .int .i64 at0, .int .i64 er]) ∧ w'.ownsRow w.heap.size 41 2 v' X.length (celS X) ∧ X.length ≤ 65536 ∧ Below w.heap.size w w' := by
  have la := (isB_iff.1 sa).1
  have lb := (isB_iff.1 sb).1
  refine (union_gen [A, B] _ (A.length + B.length) 2 g 0 2 w rfl (by omega) (fun j hj => ?_) (by omega) (fun _ => tog2 A B va vb g 0 2 w (Nat.le_refl _) h0 h1 ra rb sa sb)).mono ?_
  · match j, hj with
    | 0, _ => exact ⟨va, h0, ra, fa, by show A.length ≤ _; omega⟩
    | 1, _ => exact ⟨vb, h1, rb, fb, by show B.length ≤ _; omega⟩
  · rintro e w' ⟨v', X, at0, er, h1, h2, h3, h5⟩
    exact ⟨v', X, at0, er, h1, h2, union_len h3, h5⟩
set_option maxRecDepth 100000 in
set_option maxHeartbeats 2000000 in
theorem mem_E {Q : Ending → World → Prop} (A B Y Z : List Sn) (va vb v5 v6 vy vz vm vn : Value) (a : Act) (w : World) (la : A.length ≤ 1000000) (lb : B.length ≤ 1000000) (ly : Y.length ≤ 1000000) (lz : Z.length ≤ 1000000)
    (ra : RdS w va A) (rb : RdS w vb B) (r5 : RdS w v5 A) (r6 : RdS w v6 B) (ry : RdS w vy Y) (rz : RdS w vz Z) (rm : RdS w vm Y) (rn : RdS w vn Z)
    (hQ : ∀ w', Below w.heap.size w w' → Q (.returned (.bool true)) w') (ha : At 139 [(0, va), (1, vb), (5, v5), (6, v6), (10, vy), (12, vz), (19, vm), (20, vn)] a) : Code.wp Try.prog (sq 14 body4) (bodyPost Try.prog Try.f4 Q) a w := by
  have Rva : Hid (RdS w va A) := ra
  have Rvb : Hid (RdS w vb B) := rb
  have Rv5 : Hid (RdS w v5 A) := r5
  have Rv6 : Hid (RdS w v6 B) := r6
  have Rvy : Hid (RdS w vy Y) := ry
  have Rvz : Hid (RdS w vz Z) := rz
  have Rvm : Hid (RdS w vm Y) := rm
  have Rvn : Hid (RdS w vn Z) := rn
  have HQ : Hid (∀ w', Below w.heap.size w w' → Q (.returned (.bool true)) w') := hQ
  have B0 : Hid (Below w.heap.size w w) := Below.refl _ _
  clear ra rb r5 r6 ry rz rm rn hQ
  obtain ⟨f, rfl, h0, h1, h5, h6, h10, h12, h19, h20, -⟩ := ha.lit
  change Code.wp _ _ _ ⟨#[f 0, f 1, f 2, f 3, f 4, f 5, f 6, f 7, f 8, f 9, f 10, f 11, f 12, f 13, f 14, f 15, f 16, f 17, f 18, f 19, f 20, f 21, f 22, f 23, f 24, f 25, f 26, f 27, f 28, f 29, f 30, f 31, f 32, f 33, f 34, f 35, f 36, f 37, f 38, f 39, f 40, f 41, f 42, f 43, f 44, f 45, f 46, f 47, f 48, f 49, f 50, f 51, f 52, f 53, f 54, f 55, f 56, f 57, f 58, f 59, f 60, f 61, f 62, f 63, f 64, f 65, f 66, f 67, f 68, f 69, f 70, f 71, f 72, f 73, f 74, f 75, f 76, f 77, f 78, f 79, f 80, f 81, f 82, f 83, f 84, f 85, f 86, f 87, f 88, f 89, f 90, f 91, f 92, f 93, f 94, f 95, f 96, f 97, f 98, f 99, f 100, f 101, f 102, f 103, f 104, f 105, f 106, f 107, f 108, f 109, f 110, f 111, f 112, f 113, f 114, f 115, f 116, f 117, f 118, f 119, f 120, f 121, f 122, f 123, f 124, f 125, f 126, f 127, f 128, f 129, f 130, f 131, f 132, f 133, f 134, f 135, f 136, f 137, f 138], []⟩ _
  simp only at h0 h1 h5 h6 h10 h12 h19 h20
  simp only [h0, h1, h5, h6, h10, h12, h19, h20]
  clear h0 h1 h5 h6 h10 h12 h19 h20
  conv => arg 2; whnf
  go_wp2_with fail
  refine (awake_any w).mono ?_
  rintro e w1 ⟨rfl, b1⟩
  have B1 : Hid (Below w.heap.size w w1) := b1
  clear b1 B0
  go_wp2_with fail
  refine (alike_any A A va v5 w1 (Rva.out.below B1.out) (Rv5.out.below B1.out) (by omega) (by omega)).mono ?_
  rintro e w2 ⟨rfl, b2⟩
  rw [decide_eq_true rfl]
  have B2 : Hid (Below w.heap.size w w2) := B1.out.trans (b2.mono B1.out.size)
  clear b2 B1
  go_wp2_with fail
  refine (alike_any B B vb v6 w2 (Rvb.out.below B2.out) (Rv6.out.below B2.out) (by omega) (by omega)).mono ?_
  rintro e w3 ⟨rfl, b3⟩
  rw [decide_eq_true rfl]
  have B3 : Hid (Below w.heap.size w w3) := B2.out.trans (b3.mono B2.out.size)
  clear b3 B2
  go_wp2_with fail
  refine (alike_any Y Y vy vm w3 (Rvy.out.below B3.out) (Rvm.out.below B3.out) (by omega) (by omega)).mono ?_
  rintro e w4 ⟨rfl, b4⟩
  rw [decide_eq_true rfl]
  have B4 : Hid (Below w.heap.size w w4) := B3.out.trans (b4.mono B3.out.size)
  clear b4 B3
  go_wp2_with fail
  refine (alike_any Z Z vz vn w4 (Rvz.out.below B4.out) (Rvn.out.below B4.out) (by omega) (by omega)).mono ?_
  rintro e w5 ⟨rfl, b5⟩
  rw [decide_eq_true rfl]
  have B5 : Hid (Below w.heap.size w w5) := B4.out.trans (b5.mono B4.out.size)
  clear b5 B4
  go_wp2
  first | go_ret | skip
  exact HQ.out _ B5.out
set_option maxRecDepth 100000 in
set_option maxHeartbeats 2000000 in
theorem mem_tail (A B Y Z X R V : List Sn) (va vb v5 v6 vx vy vz vr vv vm vn : Value) (gm : Nat) (a : Act) (wE w0 : World) (hb0 : Below wE.heap.size wE w0) (la : A.length ≤ 1000000) (lb : B.length ≤ 1000000) (ly : Y.length ≤ 1000000) (lz : Z.length ≤ 1000000) (lx : X.length ≤ 1000000) (lr : R.length ≤ 1000000) (lv : V.length ≤ 1000000)
    (hx : w0.ownsRow wE.heap.size 41 2 vx X.length (celS X)) (hr : w0.ownsRow wE.heap.size 41 2 vr R.length (celS R)) (hv : w0.ownsRow wE.heap.size 41 2 vv V.length (celS V))
    (d1 : ∀ k, vx.ownBlock = some k → vr.ownBlock = some k → False) (d2 : ∀ k, vx.ownBlock = some k → vv.ownBlock = some k → False) (d3 : ∀ k, vr.ownBlock = some k → vv.ownBlock = some k → False)
    (hm : w0.heap[gm]? = some (.cells #[.int .i32 (-9), .int .i32 (-9)] 41 (0, 0))) (hmS : ¬ three vx vr vv gm)
    (hR : ∀ w', Far (three vx vr vv) w0 w' → RdS w' va A ∧ RdS w' vb B ∧ RdS w' v5 A ∧ RdS w' v6 B ∧ RdS w' vy Y ∧ RdS w' vz Z ∧ RdS w' vm Y ∧ RdS w' vn Z) (ha : At 139 [(0, va), (1, vb), (5, v5), (6, v6), (7, vx), (10, vy), (12, vz), (14, vr), (17, vv), (19, vm), (20, vn), (21, .pointer (some ⟨gm, 0, none⟩))] a) : Code.wp Try.prog (sq 10 body4) (bodyPost Try.prog Try.f4 fun e w' => e = .returned (.bool true) ∧ Below wE.heap.size wE w') a w0 := by
  have hS : ∀ k, three vx vr vv k → wE.heap.size ≤ k := fun k h => by
    rcases h with h | h | h
    · exact (own_in hx h).1
    · exact (own_in hr h).1
    · exact (own_in hv h).1
  have o1 : ∀ k, okB vx w0.heap.size k → three vx vr vv k ∨ w0.heap.size ≤ k := fun k h => h.imp .inl id
  have o2 : ∀ k, okB vr w0.heap.size k → three vx vr vv k ∨ w0.heap.size ≤ k := fun k h => h.imp (fun h => .inr (.inl h)) id
  have o3 : ∀ k, okB vv w0.heap.size k → three vx vr vv k ∨ w0.heap.size ≤ k := fun k h => h.imp (fun h => .inr (.inr h)) id
  refine mem_R vx vr vv va vb v5 v6 vy vz vm vn X.length R.length V.length (celS X) (celS R) (celS V) wE.heap.size gm a w0 hx hr hv d1 d2 d3 hm hmS hb0.size lx lr lv (fun a w1 ux ur uv f1 x1 r1 v1 h1 => ?_) ha
  refine mem_L7 (three vx vr vv) (okB vx w0.heap.size) (okB vr w0.heap.size) (okB vv w0.heap.size) (X.length + 1) (R.length + 1) (V.length + 1) ux ur uv va vb v5 v6 vy vz vm vn gm a w0 w1 f1 x1 r1 v1 o1 hm hmS (by omega) (fun a w2 f2 x2 r2 v2 h2 => ?_) h1
  refine mem_L14 (three vx vr vv) (okB vx w0.heap.size) (okB vr w0.heap.size) (okB vv w0.heap.size) (X.length + 1) (R.length + 1) (V.length + 1) ux ur uv va vb v5 v6 vy vz vm vn gm a w0 w2 f2 x2 r2 v2 o2 hm hmS (by omega) (fun a w3 f3 x3 r3 v3 h3 => ?_) h2
  refine mem_L17 (three vx vr vv) (okB vx w0.heap.size) (okB vr w0.heap.size) (okB vv w0.heap.size) (X.length + 1) (R.length + 1) (V.length + 1) ux ur uv va vb v5 v6 vy vz vm vn gm a w0 w3 f3 x3 r3 v3 o3 hm hmS (by omega) (fun a w4 f4 x4 r4 v4 h4 => ?_) h3
  obtain ⟨q1, q2, q3, q4, q5, q6, q7, q8⟩ := hR w4 f4
  have hb4 : Below wE.heap.size wE w4 := hb0.trans (f4.toBelow hb0.size hS)
  exact mem_E A B Y Z va vb v5 v6 vy vz vm vn a w4 la lb ly lz q1 q2 q3 q4 q5 q6 q7 q8 (fun w' hb => ⟨rfl, hb4.trans (hb.mono hb4.size)⟩) ⟨h4.size, h4.defers, h4.slots.1, h4.slots.2.1, h4.slots.2.2.1, h4.slots.2.2.2.1, h4.slots.2.2.2.2.2.1, h4.slots.2.2.2.2.2.2.1, h4.slots.2.2.2.2.2.2.2.2.2.1, h4.slots.2.2.2.2.2.2.2.2.2.2.1, trivial⟩
end Go.Proofs.Ytddoanmhikldiab
