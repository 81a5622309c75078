/-
  What the statement of Union, Cross, Minus and Other asks, walked. Conditions: the numbers fit; the lists take no more bytes than there are.
-/
import Derived.Test.YtddoanmhikldiaaUn
import Derived.Test.YtddoanmhikldiaaPq
import Derived.Test.YtddoanmhikldiaaRm
namespace Go.Proofs.Ytddoanmhikldiaa
open Go.RowKit
noncomputable def body4 : Code := Try.f4.body.getD .skip
theorem told_by {w : World} {X S : List Sn} {er : Int} {vx vs : Value} {f g : Int → Bool} (hP : PutsP true f X er) (hx : RdS w vx X) (hs : RdS w vs S) (hS : isS 0 S = true) (hH : ∀ p, hasB S p = g p) (hfg : ∀ p, f p = g p) : Calls Try.prog 19 #[vx, .int .i64 er, vs] w fun e w' => e = .returned (.bool true) ∧ Below w.heap.size w w' := by
  rcases hP with ⟨h, _⟩ | ⟨_, T, t1, t2, t3, t4, t5⟩
  · cases h
  · have e : T = S := uniq t1 hS (fun p => by rw [t2, hH, hfg])
    subst e
    exact told_any X T er vx vs w hx hs t3 t4 t5
theorem owns_rd {w w' : World} {b e : Nat} {v : Value} {L : List Sn} (h : w.ownsRow b e 2 v L.length (celS L)) (hb : Below w.heap.size w w') : RdS w' v L := (RdS.of_owns h).below hb
theorem all_set {A : List Sn} (h : isS 0 A = true) : ∀ s ∈ A, mayB s = true := fun s hs => (isS_mem h s hs).1
theorem both_has {A B : List Sn} (h : isS 0 A = true) (p : Int) : (hasB A p && hasB B p) = (decide (0 ≤ p) && decide (p < 1114112) && opB 1 (hasB A p) (hasB B p)) := by
  show _ = (decide (0 ≤ p) && decide (p < 1114112) && (hasB A p && hasB B p))
  cases hq : hasB A p
  · simp
  · have := has_range h hq
    rw [decide_eq_true (show 0 ≤ p by omega), decide_eq_true (show p < 1114112 by omega)]; simp
theorem first_has {A B : List Sn} (h : isS 0 A = true) (p : Int) : (hasB A p && !hasB B p) = (decide (0 ≤ p) && decide (p < 1114112) && opB 2 (hasB A p) (hasB B p)) := by
  show _ = (decide (0 ≤ p) && decide (p < 1114112) && (hasB A p && !hasB B p))
  cases hq : hasB A p
  · simp
  · have := has_range h hq
    rw [decide_eq_true (show 0 ≤ p by omega), decide_eq_true (show p < 1114112 by omega)]; simp
theorem none_has {A : List Sn} (p : Int) : (decide (0 ≤ p) && decide (p ≤ 1114111) && !hasB A p) = (decide (0 ≤ p) && decide (p < 1114112) && opB 3 (hasB A p) (hasB [] p)) := by
  show _ = (decide (0 ≤ p) && decide (p < 1114112) && (!hasB A p && !hasB [] p))
  rw [has_nil, Bool.not_false, Bool.and_true, show decide (p ≤ 1114111) = decide (p < 1114112) from by by_cases c : p ≤ 1114111 <;> simp [c] <;> omega]
theorem either_has {A B : List Sn} (ha : isS 0 A = true) (hb : isS 0 B = true) (p : Int) : (hasB A p || hasB B p) = (decide (0 ≤ p) && decide (p < 1114112) && opB 0 (hasB A p) (hasB B p)) := by
  show _ = (decide (0 ≤ p) && decide (p < 1114112) && (hasB A p || hasB B p))
  cases hq : hasB A p
  · cases hr : hasB B p
    · simp
    · have := has_range hb hr
      rw [decide_eq_true (show 0 ≤ p by omega), decide_eq_true (show p < 1114112 by omega)]; simp
  · have := has_range ha hq
    rw [decide_eq_true (show 0 ≤ p by omega), decide_eq_true (show p < 1114112 by omega)]; simp
set_option maxRecDepth 100000 in
set_option maxHeartbeats 2000000 in
theorem puts_Z {Q : Ending → World → Prop} (A B Y Z W : List Sn) (va vb vc vy vz vw vp vq : Value) (fy gz hw : Int) (a : Act) (w0 w : World) (hb0 : Below w0.heap.size w0 w) (sA : isB A = true) (sB : isB B = true)
    (ry : RdS w vy Y) (rz : RdS w vz Z) (rw : RdS w vw W) (rp : RdS w vp A) (rq : RdS w vq B)
    (py : PutsP (isB A && isB B) (fun p => hasB A p && hasB B p) Y fy) (pz : PutsP (isB A && isB B) (fun p => hasB A p && !hasB B p) Z gz) (pw : PutsP (isB A) (fun p => decide (0 ≤ p) && decide (p ≤ 1114111) && !hasB A p) W hw)
    (hQ : ∀ w', Below w0.heap.size w0 w' → Q (.returned (.bool true)) w') (ha : At 162 [(0, va), (1, vb), (2, vc), (10, vy), (11, .int .i64 fy), (12, vz), (13, .int .i64 gz), (14, vw), (15, .int .i64 hw), (21, vp), (22, vq)] a) : Code.wp Try.prog (sq 12 body4) (bodyPost Try.prog Try.f4 Q) a w := by
  obtain ⟨la, sa⟩ := isB_iff.1 sA
  obtain ⟨lb, sb⟩ := isB_iff.1 sB
  rw [sA, sB] at py pz
  rw [sA] at pw
  have RY : Hid (RdS w vy Y) := ry
  have RZ : Hid (RdS w vz Z) := rz
  have RW : Hid (RdS w vw W) := rw
  have RP : Hid (RdS w vp A) := rp
  have RQ : Hid (RdS w vq B) := rq
  have PY : Hid (PutsP true (fun p => hasB A p && hasB B p) Y fy) := py
  have PZ : Hid (PutsP true (fun p => hasB A p && !hasB B p) Z gz) := pz
  have PW : Hid (PutsP true (fun p => decide (0 ≤ p) && decide (p ≤ 1114111) && !hasB A p) W hw) := pw
  have SA : Hid (isS 0 A = true) := sa
  have SB : Hid (isS 0 B = true) := sb
  have HQ : Hid (∀ w', Below w0.heap.size w0 w' → Q (.returned (.bool true)) w') := hQ
  have B0 : Hid (Below w0.heap.size w0 w) := hb0
  clear ry rz rw rp rq py pz pw sa sb sA sB hQ hb0
  obtain ⟨f, rfl, h0, h1, h2, h10, h11, h12, h13, h14, h15, h21, h22, -⟩ := ha.lit
  change Code.wp _ _ _ ⟨#[f 0, f 1, f 2, f 3, f 4, f 5, f 6, f 7, f 8, f 9, f 10, f 11, f 12, f 13, f 14, f 15, f 16, f 17, f 18, f 19, f 20, f 21, f 22, f 23, f 24, f 25, f 26, f 27, f 28, f 29, f 30, f 31, f 32, f 33, f 34, f 35, f 36, f 37, f 38, f 39, f 40, f 41, f 42, f 43, f 44, f 45, f 46, f 47, f 48, f 49, f 50, f 51, f 52, f 53, f 54, f 55, f 56, f 57, f 58, f 59, f 60, f 61, f 62, f 63, f 64, f 65, f 66, f 67, f 68, f 69, f 70, f 71, f 72, f 73, f 74, f 75, f 76, f 77, f 78, f 79, f 80, f 81, f 82, f 83, f 84, f 85, f 86, f 87, f 88, f 89, f 90, f 91, f 92, f 93, f 94, f 95, f 96, f 97, f 98, f 99, f 100, f 101, f 102, f 103, f 104, f 105, f 106, f 107, f 108, f 109, f 110, f 111, f 112, f 113, f 114, f 115, f 116, f 117, f 118, f 119, f 120, f 121, f 122, f 123, f 124, f 125, f 126, f 127, f 128, f 129, f 130, f 131, f 132, f 133, f 134, f 135, f 136, f 137, f 138, f 139, f 140, f 141, f 142, f 143, f 144, f 145, f 146, f 147, f 148, f 149, f 150, f 151, f 152, f 153, f 154, f 155, f 156, f 157, f 158, f 159, f 160, f 161], []⟩ _
  simp only at h0 h1 h2 h10 h11 h12 h13 h14 h15 h21 h22
  simp only [h0, h1, h2, h10, h11, h12, h13, h14, h15, h21, h22]
  clear h0 h1 h2 h10 h11 h12 h13 h14 h15 h21 h22
  conv => arg 2; whnf
  go_wp2_with fail
  refine (put_any A B _ _ 1 w (by omega) RP.out RQ.out (all_set SA.out) (all_set SB.out) (by first | omega | simp) (by first | omega | simp)).mono ?_
  rintro e u1 ⟨p1, S1, rfl, o1, s1, h1, l1, b1⟩
  have BU1 : Hid (Below w.heap.size w u1) := b1
  have RS1 : Hid (RdS u1 p1 S1) := RdS.of_owns o1
  have HS1 : Hid (isS 0 S1 = true) := s1
  have HH1 : Hid (∀ p, hasB S1 p = (decide (0 ≤ p) && decide (p < 1114112) && opB 1 (hasB A p) (hasB B p))) := h1
  clear o1 s1 h1 b1 l1
  go_wp2_with fail
  refine (told_by PY.out (RY.out.below BU1.out) RS1.out HS1.out HH1.out (fun p => both_has SA.out p)).mono ?_
  rintro e t1 ⟨rfl, c1⟩
  have BT1 : Hid (Below w.heap.size w t1) := BU1.out.trans (c1.mono BU1.out.size)
  clear c1 RS1 HS1 HH1
  go_wp2_with fail
  refine (put_any A B _ _ 2 t1 (by omega) (RP.out.below BT1.out) (RQ.out.below BT1.out) (all_set SA.out) (all_set SB.out) (by first | omega | simp) (by first | omega | simp)).mono ?_
  rintro e u2 ⟨p2, S2, rfl, o2, s2, h2, l2, b2⟩
  have BU2 : Hid (Below w.heap.size w u2) := BT1.out.trans (b2.mono BT1.out.size)
  have RS2 : Hid (RdS u2 p2 S2) := RdS.of_owns o2
  have HS2 : Hid (isS 0 S2 = true) := s2
  have HH2 : Hid (∀ p, hasB S2 p = (decide (0 ≤ p) && decide (p < 1114112) && opB 2 (hasB A p) (hasB B p))) := h2
  clear o2 s2 h2 b2 l2
  go_wp2_with fail
  refine (told_by PZ.out (RZ.out.below BU2.out) RS2.out HS2.out HH2.out (fun p => first_has SA.out p)).mono ?_
  rintro e t2 ⟨rfl, c2⟩
  have BT2 : Hid (Below w.heap.size w t2) := BU2.out.trans (c2.mono BU2.out.size)
  clear c2 RS2 HS2 HH2
  have hbt := BT2.out.size
  have BT3 : Hid (Below w.heap.size w (t2.alloc (.cells #[] 58))) := BT2.out.alloc hbt _
  go_wp2_with fail
  refine (put_any A ([] : List Sn) _ _ 3 _ (by omega) (RP.out.below BT3.out) (RdS.of_owns (b := t2.heap.size) (e := 58) (own_none t2 _ 58 (Nat.le_refl _))) (all_set SA.out) (fun s hs => by cases hs) (by first | omega | simp) (by first | omega | simp)).mono ?_
  rintro e u3 ⟨p3, S3, rfl, o3, s3, h3, l3, b3⟩
  have BU3 : Hid (Below w.heap.size w u3) := BT3.out.trans (b3.mono BT3.out.size)
  have RS3 : Hid (RdS u3 p3 S3) := RdS.of_owns o3
  have HS3 : Hid (isS 0 S3 = true) := s3
  have HH3 : Hid (∀ p, hasB S3 p = (decide (0 ≤ p) && decide (p < 1114112) && opB 3 (hasB A p) (hasB ([] : List Sn) p))) := h3
  clear o3 s3 h3 b3 l3
  go_wp2_with fail
  refine (told_by PW.out (RW.out.below BU3.out) RS3.out HS3.out HH3.out (fun p => none_has p)).mono ?_
  rintro e t3 ⟨rfl, c3⟩
  have BT4 : Hid (Below w.heap.size w t3) := BU3.out.trans (c3.mono BU3.out.size)
  clear c3 RS3 HS3 HH3
  go_wp2
  exact HQ.out _ (B0.out.trans (BT4.out.mono B0.out.size))
/-- Where one of three lists is no set both tell the same place. -/
theorem no_same {Ls : List (List Sn)} {f : Int → Bool} {X : List Sn} {at0 er i : Int} {no : Bool} (h1 : UnionP Ls f X at0 er) (h2 : NoP Ls i no) : (no = true ∧ X = [] ∧ er = 70 ∧ at0 = i ∧ ∃ k, k < Ls.length ∧ isB (Ls.getD k []) = false) ∨ (no = false ∧ (er == 70) = false ∧ at0 = 0 ∧ (∀ j, j < Ls.length → isB (Ls.getD j []) = true) ∧ PutsP true f X er) := by
  rcases h1 with ⟨k, a1, a2, a3, rfl, rfl, rfl⟩ | ⟨a1, rfl, S, s1, s2, s3, s4, s5⟩ <;> rcases h2 with ⟨k', b1, b2, b3, rfl, rfl⟩ | ⟨b1, rfl, rfl⟩
  · have : k = k' := by
      rcases Nat.lt_trichotomy k k' with c | c | c
      · rw [b3 k c] at a2; cases a2
      · exact c
      · rw [a3 k' c] at b2; cases b2
    subst this
    exact .inl ⟨rfl, rfl, rfl, rfl, k, a1, a2⟩
  · rw [b1 k a1] at a2; cases a2
  · rw [a1 k' b1] at b2; cases b2
  · refine .inr ⟨rfl, ?_, rfl, a1, .inr ⟨rfl, S, s1, s2, s3, s4, s5⟩⟩
    by_cases c : S.length ≤ 65536
    · rw [(s4 c).2]; rfl
    · rw [(s5 (by omega)).2]; rfl
theorem rdl2 {w : World} {g : Nat} {A B : List Sn} {va vb : Value} (h0 : w.cell? ⟨g, 0, none⟩ = some va) (h1 : w.cell? ⟨g, 1, none⟩ = some vb) (ra : RdS w va A) (rb : RdS w vb B) (fa : fitS A) (fb : fitS B) (la : A.length ≤ 17592186044416) (lb : B.length ≤ 17592186044416) : RdL w g 0 [A, B] := by
  intro j hj
  match j, hj with
  | 0, _ => exact ⟨va, h0, ra, fa, la⟩
  | 1, _ => exact ⟨vb, h1, rb, fb, lb⟩
theorem rdl3 {w : World} {g : Nat} {A B C : List Sn} {va vb vc : Value} (h0 : w.cell? ⟨g, 0, none⟩ = some va) (h1 : w.cell? ⟨g, 1, none⟩ = some vb) (h2 : w.cell? ⟨g, 2, none⟩ = some vc) (ra : RdS w va A) (rb : RdS w vb B) (rc : RdS w vc C) (fa : fitS A) (fb : fitS B) (fc : fitS C) (la : A.length ≤ 17592186044416) (lb : B.length ≤ 17592186044416) (lc : C.length ≤ 17592186044416) : RdL w g 0 [A, B, C] := by
  intro j hj
  match j, hj with
  | 0, _ => exact ⟨va, h0, ra, fa, la⟩
  | 1, _ => exact ⟨vb, h1, rb, fb, lb⟩
  | 2, _ => exact ⟨vc, h2, rc, fc, lc⟩
theorem union3_any (A B C : List Sn) (va vb vc : Value) (g : Nat) (w : World) (h0 : w.cell? ⟨g, 0, none⟩ = some va) (h1 : w.cell? ⟨g, 1, none⟩ = some vb) (h2 : w.cell? ⟨g, 2, none⟩ = some vc) (ra : RdS w va A) (rb : RdS w vb B) (rc : RdS w vc C) (fa : fitS A) (fb : fitS B) (fc : fitS C) (la : A.length ≤ 17592186044416) (lb : B.length ≤ 17592186044416) (lc : C.length ≤ 17592186044416) : Calls Try.prog 14 #[.slice (some ⟨g, 0, none⟩) 3 3] w fun e w' => ∃ v' X at0 er, e = .returned (.tuple #[v', .int .i64 at0, .int .i64 er]) ∧ w'.ownsRow w.heap.size 57 2 v' X.length (celS X) ∧ UnionP [A, B, C] (fun p => hasB A p || (hasB B p || hasB C p)) X at0 er ∧ Below w.heap.size w w' := by
  by_cases c : isB A = true ∧ isB B = true ∧ isB C = true
  · obtain ⟨sa, sb, sc⟩ := c
    have la' := (isB_iff.1 sa).1
    have lb' := (isB_iff.1 sb).1
    have lc' := (isB_iff.1 sc).1
    exact union_gen [A, B, C] _ (A.length + (B.length + C.length)) 3 g 0 3 w rfl (Nat.le_refl _) (rdl3 h0 h1 h2 ra rb rc fa fb fc la lb lc) (by omega) (fun _ => tog3 A B C va vb vc g 0 3 w (Nat.le_refl _) h0 h1 h2 ra rb rc sa sb sc)
  · exact union_gen [A, B, C] _ 0 3 g 0 3 w rfl (Nat.le_refl _) (rdl3 h0 h1 h2 ra rb rc fa fb fc la lb lc) (by omega) (fun h => absurd ⟨h 0 (by simp), h 1 (by simp), h 2 (by simp)⟩ c)
set_option maxRecDepth 100000 in
set_option maxHeartbeats 2000000 in
theorem law_puts (A B C : List Sn) (va vb vc : Value) (w : World) (ra : RdS w va A) (rb : RdS w vb B) (rc : RdS w vc C) (fa : fitS A) (fb : fitS B) (fc : fitS C) (la : A.length ≤ 17592186044416) (lb : B.length ≤ 17592186044416) (lc : C.length ≤ 17592186044416) : Calls Try.prog 4 #[va, vb, vc] w fun e w' => e = .returned (.bool true) ∧ Below w.heap.size w w' := by
  have RA : Hid (RdS w va A) := ra
  have RB : Hid (RdS w vb B) := rb
  have RC : Hid (RdS w vc C) := rc
  have FA : Hid (fitS A) := fa
  have FB : Hid (fitS B) := fb
  have FC : Hid (fitS C) := fc
  obtain ⟨pa, ca, rfl, _, _⟩ := ra
  obtain ⟨pb, cb, rfl, _, _⟩ := rb
  obtain ⟨pc, cc, rfl, _, _⟩ := rc
  clear fa fb fc
  have HZ : Hid (∀ (Y Z W : List Sn) (vy vz vw vp vq : Value) (fy gz hw : Int) (a : Act) (w1 : World), Below w.heap.size w w1 → isB A = true → isB B = true → RdS w1 vy Y → RdS w1 vz Z → RdS w1 vw W → RdS w1 vp A → RdS w1 vq B → PutsP (isB A && isB B) (fun p => hasB A p && hasB B p) Y fy → PutsP (isB A && isB B) (fun p => hasB A p && !hasB B p) Z gz → PutsP (isB A) (fun p => decide (0 ≤ p) && decide (p ≤ 1114111) && !hasB A p) W hw → At 162 [(0, (.slice pa A.length ca)), (1, (.slice pb B.length cb)), (2, (.slice pc C.length cc)), (10, vy), (11, .int .i64 fy), (12, vz), (13, .int .i64 gz), (14, vw), (15, .int .i64 hw), (21, vp), (22, vq)] a → Code.wp Try.prog (sq 12 body4) (bodyPost Try.prog Try.f4 fun e w' => e = .returned (.bool true) ∧ Below w.heap.size w w') a w1) := fun Y Z W vy vz vw vp vq fy gz hw a w1 hb h1 h2 h3 h4 h5 h6 h7 h8 h9 h10 h11 => puts_Z A B Y Z W (.slice pa A.length ca) (.slice pb B.length cb) (.slice pc C.length cc) vy vz vw vp vq fy gz hw a w w1 hb h1 h2 h3 h4 h5 h6 h7 h8 h9 h10 (fun w' hb' => ⟨rfl, hb'⟩) h11
  go_enter Try.func4, Try.ntmps4
  change Code.wp _ (Code.seq (hd (sq 0 body4)) (Code.seq (hd (sq 1 body4)) (Code.seq (hd (sq 2 body4)) (Code.seq (hd (sq 3 body4)) (Code.seq (hd (sq 4 body4)) (Code.seq (hd (sq 5 body4)) (Code.seq (hd (sq 6 body4)) (Code.seq (hd (sq 7 body4)) (Code.seq (hd (sq 8 body4)) (Code.seq (hd (sq 9 body4)) (Code.seq (hd (sq 10 body4)) (Code.seq (hd (sq 11 body4)) (sq 12 body4))))))))))))) _ _ _
  generalize sq 12 body4 = REST at HZ ⊢
  conv => arg 2; arg 1; whnf
  conv => arg 2; arg 2; arg 1; whnf
  conv => arg 2; arg 2; arg 2; arg 1; whnf
  conv => arg 2; arg 2; arg 2; arg 2; arg 1; whnf
  conv => arg 2; arg 2; arg 2; arg 2; arg 2; arg 1; whnf
  conv => arg 2; arg 2; arg 2; arg 2; arg 2; arg 2; arg 1; whnf
  conv => arg 2; arg 2; arg 2; arg 2; arg 2; arg 2; arg 2; arg 1; whnf
  conv => arg 2; arg 2; arg 2; arg 2; arg 2; arg 2; arg 2; arg 2; arg 1; whnf
  conv => arg 2; arg 2; arg 2; arg 2; arg 2; arg 2; arg 2; arg 2; arg 2; arg 1; whnf
  conv => arg 2; arg 2; arg 2; arg 2; arg 2; arg 2; arg 2; arg 2; arg 2; arg 2; arg 1; whnf
  conv => arg 2; arg 2; arg 2; arg 2; arg 2; arg 2; arg 2; arg 2; arg 2; arg 2; arg 2; arg 1; whnf
  conv => arg 2; arg 2; arg 2; arg 2; arg 2; arg 2; arg 2; arg 2; arg 2; arg 2; arg 2; arg 2; arg 1; whnf
  have BW : Hid (Below w.heap.size w (w.alloc (.cells #[(.slice pa A.length ca), (.slice pb B.length cb), (.slice pc C.length cc)] 22))) := (Below.refl _ _).alloc (Nat.le_refl _) _
  go_wp2_with fail
  refine (union3_any A B C (.slice pa A.length ca) (.slice pb B.length cb) (.slice pc C.length cc) w.heap.size _ (cells_new w #[(.slice pa A.length ca), (.slice pb B.length cb), (.slice pc C.length cc)] 22 0 _ rfl) (cells_new w #[(.slice pa A.length ca), (.slice pb B.length cb), (.slice pc C.length cc)] 22 1 _ rfl) (cells_new w #[(.slice pa A.length ca), (.slice pb B.length cb), (.slice pc C.length cc)] 22 2 _ rfl) (RA.out.below BW.out) (RB.out.below BW.out) (RC.out.below BW.out) FA.out FB.out FC.out la lb lc).mono ?_
  rintro e w1 ⟨vx, X, at0, ex, rfl, ox, px, b1⟩
  have OX : Hid (w1.ownsRow (w.heap.size + 1) 57 2 vx X.length (celS X)) := by rw [Hid]; simpa using ox
  have PX : Hid (UnionP [A, B, C] (fun p => hasB A p || (hasB B p || hasB C p)) X at0 ex) := px
  have B1 : Hid (Below w.heap.size w w1) := BW.out.trans (b1.mono BW.out.size)
  clear ox px b1
  go_wp2_with fail
  refine (cross_any A B (.slice pa A.length ca) (.slice pb B.length cb) w1 (RA.out.below B1.out) (RB.out.below B1.out) FA.out FB.out la lb).mono ?_
  rintro e w2 ⟨vy, Y, fy, rfl, oy, py, b2⟩
  have OY : Hid (w2.ownsRow w1.heap.size 57 2 vy Y.length (celS Y)) := oy
  have PY : Hid (PutsP (isB A && isB B) (fun p => hasB A p && hasB B p) Y fy) := py
  have B2 : Hid (Below w.heap.size w w2) := B1.out.trans (b2.mono B1.out.size)
  have X2 : Hid (Below w1.heap.size w1 w2) := b2
  clear oy py b2
  go_wp2_with fail
  refine (minus_any A B (.slice pa A.length ca) (.slice pb B.length cb) w2 (RA.out.below B2.out) (RB.out.below B2.out) FA.out FB.out la lb).mono ?_
  rintro e w3 ⟨vz, Z, gz, rfl, oz, pz, b3⟩
  have OZ : Hid (w3.ownsRow w2.heap.size 57 2 vz Z.length (celS Z)) := oz
  have PZ : Hid (PutsP (isB A && isB B) (fun p => hasB A p && !hasB B p) Z gz) := pz
  have B3 : Hid (Below w.heap.size w w3) := B2.out.trans (b3.mono B2.out.size)
  have Y3 : Hid (Below w2.heap.size w2 w3) := b3
  clear oz pz b3
  go_wp2_with fail
  refine (other_any A (.slice pa A.length ca) w3 (RA.out.below B3.out) FA.out la).mono ?_
  rintro e w4 ⟨vw, WL, hw, rfl, ow, pw, b4⟩
  have OW : Hid (w4.ownsRow w3.heap.size 57 2 vw WL.length (celS WL)) := ow
  have PW : Hid (PutsP (isB A) (fun p => decide (0 ≤ p) && decide (p ≤ 1114111) && !hasB A p) WL hw) := pw
  have Z4 : Hid (Below w3.heap.size w3 w4) := b4
  have B4 : Hid (Below w.heap.size w w4) := B3.out.trans (b4.mono B3.out.size)
  clear ow pw b4
  go_wp2_with fail
  refine (union_none w4).mono ?_
  rintro e w5 ⟨rfl, b5⟩
  have W5 : Hid (Below w4.heap.size w4 w5) := b5
  clear b5
  go_wp2_with fail
  refine (awake_any w5).mono ?_
  rintro e w6 ⟨rfl, b6⟩
  have W6 : Hid (Below w4.heap.size w4 w6) := W5.out.trans (b6.mono W5.out.size)
  have B6 : Hid (Below w.heap.size w w6) := B4.out.trans (W6.out.mono B4.out.size)
  clear b6 W5
  have h6 := B6.out.size
  have BW6 : Hid (Below w.heap.size w (w6.alloc (.cells #[(.slice pa A.length ca), (.slice pb B.length cb), (.slice pc C.length cc)] 22))) := B6.out.alloc h6 _
  go_wp2_with fail
  refine (refused_any [A, B, C] 3 w6.heap.size 0 3 _ rfl (by omega) (rdl3 (cells_new w6 #[(.slice pa A.length ca), (.slice pb B.length cb), (.slice pc C.length cc)] 22 0 _ rfl) (cells_new w6 #[(.slice pa A.length ca), (.slice pb B.length cb), (.slice pc C.length cc)] 22 1 _ rfl) (cells_new w6 #[(.slice pa A.length ca), (.slice pb B.length cb), (.slice pc C.length cc)] 22 2 _ rfl) (RA.out.below BW6.out) (RB.out.below BW6.out) (RC.out.below BW6.out) FA.out FB.out FC.out la lb lc)).mono ?_
  rintro e w7 ⟨i1, no1, rfl, np, b7⟩
  have B7 : Hid (Below w.heap.size w w7) := BW6.out.trans (b7.mono BW6.out.size)
  have h46 := W6.out.size
  have W7 : Hid (Below w4.heap.size w4 w7) := (W6.out.alloc h46 _).trans (b7.mono (by simp; omega))
  have NS : Hid _ := no_same PX.out np
  clear np b7 PX h46 h6 BW6
  have GIV : Hid (∀ w7 : World, Below w.heap.size w w7 → Below w4.heap.size w4 w7 → True) := fun _ _ _ => trivial
  rcases NS.out with ⟨rfl, rfl, rfl, rfl, hk⟩ | ⟨rfl, hex, rfl, hall, hPX⟩
  · obtain ⟨pxx, cxx, rfl, _, _⟩ := owns_slice OX.out
    simp only [List.length_nil]
    have X7 : Hid (Below w.heap.size w w7) := B7.out
    go_wp2_with fail
    refine (given_any A (.slice pa A.length ca) w7 (RA.out.below B7.out) la).mono ?_
    rintro e g1 ⟨vp, rfl, op, c1⟩
    have OP : Hid (w7.ownsRow 0 0 0 vp 0 [] → True) := fun _ => trivial
    have RP1 : Hid (RdS g1 vp A) := RdS.of_owns op
    have G1 : Hid (Below w7.heap.size w7 g1) := c1
    clear op c1 OP
    go_wp2_with fail
    refine (given_any B (.slice pb B.length cb) g1 (RB.out.below (B7.out.trans (G1.out.mono B7.out.size))) lb).mono ?_
    rintro e g2 ⟨vq, rfl, oq, c2⟩
    have RQ1 : Hid (RdS g2 vq B) := RdS.of_owns oq
    have G2 : Hid (Below w7.heap.size w7 g2) := G1.out.trans (c2.mono G1.out.size)
    have RP2 : Hid (RdS g2 vp A) := RP1.out.below c2
    clear oq c2 G1 RP1
    go_wp2_with fail
    refine (given_any C (.slice pc C.length cc) g2 (RC.out.below (B7.out.trans (G2.out.mono B7.out.size))) lc).mono ?_
    rintro e g3 ⟨vr, rfl, or1, c3⟩
    have RR : Hid (RdS g3 vr C) := RdS.of_owns or1
    have G3 : Hid (Below w7.heap.size w7 g3) := G2.out.trans (c3.mono G2.out.size)
    have RP : Hid (RdS g3 vp A) := RP2.out.below c3
    have RQ : Hid (RdS g3 vq B) := RQ1.out.below c3
    clear or1 c3 G2 RP2 RQ1
    have BPG : Hid (Below g3.heap.size g3 g3) := Below.refl _ _
    have BG : Hid (Below w7.heap.size w7 g3) := G3.out
    have hh := BG.out.size
    have h7 := B7.out.size
    have h7b := W7.out.size
    have BW2 : Hid (Below w.heap.size w (g3.alloc (.cells #[(.slice pa A.length ca), (.slice pb B.length cb)] 22))) := (B7.out.trans (BG.out.mono h7)).alloc (by omega) _
    have BWW2 : Hid (Below w4.heap.size w4 (g3.alloc (.cells #[(.slice pa A.length ca), (.slice pb B.length cb)] 22))) := (W7.out.trans (BG.out.mono h7b)).alloc (by omega) _
    have hz4 := Z4.out.size
    have BZ2 : Hid (Below w3.heap.size w3 (g3.alloc (.cells #[(.slice pa A.length ca), (.slice pb B.length cb)] 22))) := Z4.out.trans (BWW2.out.mono hz4)
    have hy3 := Y3.out.size
    have BY2 : Hid (Below w2.heap.size w2 (g3.alloc (.cells #[(.slice pa A.length ca), (.slice pb B.length cb)] 22))) := Y3.out.trans (BZ2.out.mono hy3)
    have BP2 : Hid (Below g3.heap.size g3 (g3.alloc (.cells #[(.slice pa A.length ca), (.slice pb B.length cb)] 22))) := BPG.out.alloc (by have := BPG.out.size; omega) _
    clear hh h7 h7b hz4 hy3 BG
    go_wp2_with fail
    refine (refused_any [A, B] 2 g3.heap.size 0 2 _ rfl (by omega) (rdl2 (cells_new g3 #[(.slice pa A.length ca), (.slice pb B.length cb)] 22 0 _ rfl) (cells_new g3 #[(.slice pa A.length ca), (.slice pb B.length cb)] 22 1 _ rfl) (RA.out.below BW2.out) (RB.out.below BW2.out) FA.out FB.out la lb)).mono ?_
    rintro e u9 ⟨i2, no2, rfl, np2, b9⟩
    have B9 : Hid (Below w.heap.size w u9) := BW2.out.trans (b9.mono BW2.out.size)
    have Y9 : Hid (Below w2.heap.size w2 u9) := BY2.out.trans (b9.mono BY2.out.size)
    have Z9 : Hid (Below w3.heap.size w3 u9) := BZ2.out.trans (b9.mono BZ2.out.size)
    have W9 : Hid (Below w4.heap.size w4 u9) := BWW2.out.trans (b9.mono BWW2.out.size)
    have P9 : Hid (RdS u9 vp A) := RP.out.below (BP2.out.trans (b9.mono BP2.out.size))
    have Q9 : Hid (RdS u9 vq B) := RQ.out.below (BP2.out.trans (b9.mono BP2.out.size))
    have NP : Hid (NoP [A, B] i2 no2) := np2
    clear np2 b9
    cases no2
    · have hab : isB A = true ∧ isB B = true := by
        rcases NP.out with ⟨k, _, _, _, _, h⟩ | ⟨h, _⟩
        · cases h
        · exact ⟨h 0 (by simp), h 1 (by simp)⟩
      go_wp2_with fail
      exact HZ.out Y Z WL vy vz vw vp vq fy gz hw _ u9 B9.out hab.1 hab.2 (owns_rd OY.out Y9.out) (owns_rd OZ.out Z9.out) (owns_rd OW.out W9.out) P9.out Q9.out PY.out PZ.out PW.out ⟨rfl, rfl, rfl, rfl, rfl, rfl, rfl, rfl, rfl, rfl, rfl, rfl, rfl, trivial⟩
    · have hab : (isB A && isB B) = false := by
        rcases NP.out with ⟨k, h1, h2, _, _, _⟩ | ⟨_, _, h⟩
        · match k, h1, h2 with
          | 0, _, h2 => rw [show isB A = false from h2]; rfl
          | 1, _, h2 => rw [show isB B = false from h2, Bool.and_false]
        · cases h
      obtain ⟨rfl, rfl⟩ : Y = [] ∧ fy = 70 := by
        rcases PY.out with ⟨_, h1, h2⟩ | ⟨h, _⟩
        · exact ⟨h1, h2⟩
        · rw [hab] at h; cases h
      obtain ⟨rfl, rfl⟩ : Z = [] ∧ gz = 70 := by
        rcases PZ.out with ⟨_, h1, h2⟩ | ⟨h, _⟩
        · exact ⟨h1, h2⟩
        · rw [hab] at h; cases h
      obtain ⟨py, cy, rfl, _, _⟩ := owns_slice OY.out
      obtain ⟨pz, cz, rfl, _, _⟩ := owns_slice OZ.out
      simp only [List.length_nil]
      clear hab HZ
      go_wp2
      try go_ret
      exact ⟨rfl, B9.out⟩
  · obtain ⟨sA, sB, sC⟩ : isB A = true ∧ isB B = true ∧ isB C = true := ⟨hall 0 (by simp), hall 1 (by simp), hall 2 (by simp)⟩
    obtain ⟨la', sa⟩ := isB_iff.1 sA
    obtain ⟨lb', sb⟩ := isB_iff.1 sB
    obtain ⟨lc', sc⟩ := isB_iff.1 sC
    have SA : Hid (isS 0 A = true) := sa
    have SB : Hid (isS 0 B = true) := sb
    have SC : Hid (isS 0 C = true) := sc
    have HPX : Hid (PutsP true (fun p => hasB A p || (hasB B p || hasB C p)) X ex) := hPX
    clear sa sb sc sA sB sC hall hPX NS
    go_wp2_with fail
    refine (given_any A (.slice pa A.length ca) w7 (RA.out.below B7.out) la).mono ?_
    rintro e g1 ⟨vp, rfl, op, c1⟩
    have OP : Hid (w7.ownsRow 0 0 0 vp 0 [] → True) := fun _ => trivial
    have RP1 : Hid (RdS g1 vp A) := RdS.of_owns op
    have G1 : Hid (Below w7.heap.size w7 g1) := c1
    clear op c1 OP
    go_wp2_with fail
    refine (given_any B (.slice pb B.length cb) g1 (RB.out.below (B7.out.trans (G1.out.mono B7.out.size))) lb).mono ?_
    rintro e g2 ⟨vq, rfl, oq, c2⟩
    have RQ1 : Hid (RdS g2 vq B) := RdS.of_owns oq
    have G2 : Hid (Below w7.heap.size w7 g2) := G1.out.trans (c2.mono G1.out.size)
    have RP2 : Hid (RdS g2 vp A) := RP1.out.below c2
    clear oq c2 G1 RP1
    go_wp2_with fail
    refine (given_any C (.slice pc C.length cc) g2 (RC.out.below (B7.out.trans (G2.out.mono B7.out.size))) lc).mono ?_
    rintro e g3 ⟨vr, rfl, or1, c3⟩
    have RR : Hid (RdS g3 vr C) := RdS.of_owns or1
    have G3 : Hid (Below w7.heap.size w7 g3) := G2.out.trans (c3.mono G2.out.size)
    have RP : Hid (RdS g3 vp A) := RP2.out.below c3
    have RQ : Hid (RdS g3 vq B) := RQ1.out.below c3
    clear or1 c3 G2 RP2 RQ1
    go_wp2_with fail
    refine (put_any A B vp vq 0 g3 (by omega) RP.out RQ.out (all_set SA.out) (all_set SB.out) (by omega) (by omega)).mono ?_
    rintro e p1 ⟨vs1, S1, rfl, os1, ss1, hs1, ls1, bs1⟩
    have RS1 : Hid (RdS p1 vs1 S1) := RdS.of_owns os1
    have HS1 : Hid (isS 0 S1 = true) := ss1
    have HH1 : Hid (∀ p, hasB S1 p = (hasB A p || hasB B p)) := fun p => by rw [hs1 p, either_has SA.out SB.out p]
    have LS1 : S1.length ≤ 500000 := by omega
    have BP1 : Hid (Below g3.heap.size g3 p1) := bs1
    clear os1 ss1 hs1 ls1 bs1
    go_wp2_with fail
    refine (put_any S1 C vs1 vr 0 p1 (by omega) RS1.out (RR.out.below BP1.out) (all_set HS1.out) (all_set SC.out) (by omega) (by omega)).mono ?_
    rintro e p2 ⟨vs2, S2, rfl, os2, ss2, hs2, ls2, bs2⟩
    have RS2 : Hid (RdS p2 vs2 S2) := RdS.of_owns os2
    have HS2 : Hid (isS 0 S2 = true) := ss2
    have HH2 : Hid (∀ p, hasB S2 p = (hasB A p || (hasB B p || hasB C p))) := fun p => by rw [hs2 p, ← either_has HS1.out SC.out p, HH1.out, Bool.or_assoc]
    have BPP : Hid (Below g3.heap.size g3 p2) := BP1.out.trans (bs2.mono BP1.out.size)
    clear os2 ss2 hs2 ls2 bs2
    have hg7 := G3.out.size
    have h47 := W7.out.size
    have XW : Hid (Below w1.heap.size w1 p2) := by
      have e1 := W7.out.trans ((G3.out.trans (BPP.out.mono hg7)).mono h47)
      have e2 := Z4.out.trans (e1.mono Z4.out.size)
      have e3 := Y3.out.trans (e2.mono Y3.out.size)
      exact X2.out.trans (e3.mono X2.out.size)
    go_wp2_with fail
    refine (told_by HPX.out (owns_rd OX.out XW.out) RS2.out HS2.out HH2.out (fun p => rfl)).mono ?_
    rintro e p3 ⟨rfl, c9⟩
    have BPG : Hid (Below g3.heap.size g3 p3) := BPP.out.trans (c9.mono BPP.out.size)
    clear c9 RS1 HS1 HH1 RS2 HS2 HH2 BP1 BPP XW LS1
    have BG : Hid (Below w7.heap.size w7 p3) := G3.out.trans (BPG.out.mono hg7)
    have hh := BG.out.size
    have h7 := B7.out.size
    have h7b := W7.out.size
    have BW2 : Hid (Below w.heap.size w (p3.alloc (.cells #[(.slice pa A.length ca), (.slice pb B.length cb)] 22))) := (B7.out.trans (BG.out.mono h7)).alloc (by omega) _
    have BWW2 : Hid (Below w4.heap.size w4 (p3.alloc (.cells #[(.slice pa A.length ca), (.slice pb B.length cb)] 22))) := (W7.out.trans (BG.out.mono h7b)).alloc (by omega) _
    have hz4 := Z4.out.size
    have BZ2 : Hid (Below w3.heap.size w3 (p3.alloc (.cells #[(.slice pa A.length ca), (.slice pb B.length cb)] 22))) := Z4.out.trans (BWW2.out.mono hz4)
    have hy3 := Y3.out.size
    have BY2 : Hid (Below w2.heap.size w2 (p3.alloc (.cells #[(.slice pa A.length ca), (.slice pb B.length cb)] 22))) := Y3.out.trans (BZ2.out.mono hy3)
    have BP2 : Hid (Below g3.heap.size g3 (p3.alloc (.cells #[(.slice pa A.length ca), (.slice pb B.length cb)] 22))) := BPG.out.alloc (by have := BPG.out.size; omega) _
    clear hh h7 h7b hz4 hy3 BG
    go_wp2_with fail
    refine (refused_any [A, B] 2 p3.heap.size 0 2 _ rfl (by omega) (rdl2 (cells_new p3 #[(.slice pa A.length ca), (.slice pb B.length cb)] 22 0 _ rfl) (cells_new p3 #[(.slice pa A.length ca), (.slice pb B.length cb)] 22 1 _ rfl) (RA.out.below BW2.out) (RB.out.below BW2.out) FA.out FB.out la lb)).mono ?_
    rintro e u9 ⟨i2, no2, rfl, np2, b9⟩
    have B9 : Hid (Below w.heap.size w u9) := BW2.out.trans (b9.mono BW2.out.size)
    have Y9 : Hid (Below w2.heap.size w2 u9) := BY2.out.trans (b9.mono BY2.out.size)
    have Z9 : Hid (Below w3.heap.size w3 u9) := BZ2.out.trans (b9.mono BZ2.out.size)
    have W9 : Hid (Below w4.heap.size w4 u9) := BWW2.out.trans (b9.mono BWW2.out.size)
    have P9 : Hid (RdS u9 vp A) := RP.out.below (BP2.out.trans (b9.mono BP2.out.size))
    have Q9 : Hid (RdS u9 vq B) := RQ.out.below (BP2.out.trans (b9.mono BP2.out.size))
    have NP : Hid (NoP [A, B] i2 no2) := np2
    clear np2 b9
    cases no2
    · have hab : isB A = true ∧ isB B = true := by
        rcases NP.out with ⟨k, _, _, _, _, h⟩ | ⟨h, _⟩
        · cases h
        · exact ⟨h 0 (by simp), h 1 (by simp)⟩
      go_wp2_with fail
      exact HZ.out Y Z WL vy vz vw vp vq fy gz hw _ u9 B9.out hab.1 hab.2 (owns_rd OY.out Y9.out) (owns_rd OZ.out Z9.out) (owns_rd OW.out W9.out) P9.out Q9.out PY.out PZ.out PW.out ⟨rfl, rfl, rfl, rfl, rfl, rfl, rfl, rfl, rfl, rfl, rfl, rfl, rfl, trivial⟩
    · have hab : (isB A && isB B) = false := by
        rcases NP.out with ⟨k, h1, h2, _, _, _⟩ | ⟨_, _, h⟩
        · match k, h1, h2 with
          | 0, _, h2 => rw [show isB A = false from h2]; rfl
          | 1, _, h2 => rw [show isB B = false from h2, Bool.and_false]
        · cases h
      obtain ⟨rfl, rfl⟩ : Y = [] ∧ fy = 70 := by
        rcases PY.out with ⟨_, h1, h2⟩ | ⟨h, _⟩
        · exact ⟨h1, h2⟩
        · rw [hab] at h; cases h
      obtain ⟨rfl, rfl⟩ : Z = [] ∧ gz = 70 := by
        rcases PZ.out with ⟨_, h1, h2⟩ | ⟨h, _⟩
        · exact ⟨h1, h2⟩
        · rw [hab] at h; cases h
      obtain ⟨py, cy, rfl, _, _⟩ := owns_slice OY.out
      obtain ⟨pz, cz, rfl, _, _⟩ := owns_slice OZ.out
      simp only [List.length_nil]
      clear hab HZ
      go_wp2
      try go_ret
      exact ⟨rfl, B9.out⟩
end Go.Proofs.Ytddoanmhikldiaa
