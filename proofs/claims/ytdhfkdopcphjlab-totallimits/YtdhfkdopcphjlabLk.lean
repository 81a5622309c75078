/-
  The law TotalLimits, walked. Conditions: the float's bits fit.
-/
import Derived.Test.YtdhfkdopcphjlabLj
namespace Go.Proofs.Ytdhfkdopcphjlab
open Go.RowKit
theorem own_in {w : World} {b e s n : Nat} {v : Value} {xs : List Value} {k : Nat} (h : w.ownsRow b e s v n xs) (hk : v.ownBlock = some k) : b ≤ k ∧ ∃ cur, w.heap[k]? = some (.cells cur e (0, 0)) := by
  rcases h.2 with ⟨rfl, _⟩ | ⟨g, cap, cur, rfl, hb, hg, _⟩
  · cases hk
  · obtain rfl : g = k := by simpa [Value.ownBlock] using hk
    exact ⟨hb, cur, hg⟩
theorem owns_same {w w' : World} {b e s n : Nat} {v : Value} {xs : List Value} (h : w.ownsRow b e s v n xs) (hs : ∀ k, v.ownBlock = some k → w'.heap[k]? = w.heap[k]?) : w'.ownsRow b e s v n xs := by
  refine ⟨h.1, ?_⟩
  rcases h.2 with hn | ⟨g, cap, cur, rfl, hb, hg, hr⟩
  · exact .inl hn
  · exact .inr ⟨g, cap, cur, rfl, hb, (hs g rfl).trans hg, hr⟩
/-- What is appended to one row leaves a row of another type alone. -/
theorem owns_kept {W W' : World} {b e s n b' e' s' n' : Nat} {v v' : Value} {xs xs' : List Value} (h : W.ownsRow b e s v n xs) (h' : W.ownsRow b' e' s' v' n' xs') (hne : e ≠ e') (hg : W.grownBy W' v'.ownBlock) : W'.ownsRow b e s v n xs := owns_same h fun k hk => by
  obtain ⟨_, cur, h1⟩ := own_in h hk
  refine hg.block k (Array.getElem?_eq_some_iff.1 h1).1 fun e1 => ?_
  obtain ⟨_, cur', h2⟩ := own_in h' e1.symm
  rw [h1] at h2
  simp only [Option.some.injEq, Obj.cells.injEq] at h2
  exact hne h2.2.1
theorem RdF.of_owns {k : FloatKind} {w : World} {b e n : Nat} {v : Value} {xs : List Value} (h : w.ownsRow b e 1 v n xs) (hf : ∀ u ∈ xs, ∃ b, u = .float k b) : RdF k w v n := by
  have hlen : xs.length = n := by have := h.1; omega
  have hs : ∃ a c, v = .slice a n c ∧ n ≤ c ∧ (0 < n → ∃ g, a = some ⟨g, 0, none⟩) := by
    obtain ⟨_, ⟨rfl, h0⟩ | ⟨g, cap, cur, rfl, _, _, h3, _⟩⟩ := h
    · exact ⟨none, 0, by rw [h0], by omega, fun h => by omega⟩
    · exact ⟨_, _, rfl, h3, fun _ => ⟨g, rfl⟩⟩
  obtain ⟨a, c, rfl, hc, hg⟩ := hs
  refine ⟨a, c, rfl, hc, fun hp => ?_⟩
  obtain ⟨g, rfl⟩ := hg hp
  refine ⟨g, 0, rfl, fun j hj => ?_⟩
  have hx : xs[j]? = some xs[j] := List.getElem?_eq_getElem (by omega)
  obtain ⟨b, hb⟩ := hf xs[j] (List.getElem_mem (by omega))
  rw [Nat.zero_add]
  exact ⟨b, by rw [owns_cell h rfl j _ hx, hb]⟩
theorem info26 : (Try.prog.info? 26).map (fun i => (i.zero, i.size, i.bytes)) = some (some (.float .f32 0), 1, 4) := by kernel_rfl
theorem own_none2 (W : World) (b t : Nat) (hb : b ≤ W.heap.size) : (W.alloc (.cells #[] t)).ownsRow b t 1 (.slice (some ⟨W.heap.size, 0, none⟩) 0 0) 0 [] := ⟨rfl, .inr ⟨W.heap.size, 0, #[], rfl, hb, heap_alloc_last _ _, Nat.le_refl _, Nat.zero_le _, by simp, rfl⟩⟩
theorem flt_rep (k x : Nat) : flt (List.replicate (k + 1) x) = flt (List.replicate k x) ++ [.float .f64 x] := by
  rw [List.replicate_succ']
  simp [flt]
theorem cells_one (w : World) (v : Value) (t : TypeId) : ∀ j u, [v][j]? = some u → (w.alloc (.cells #[v] t)).cell? ((⟨w.heap.size, 0, none⟩ : Addr).add j) = some u := fun j u h => by
  have hj : j = 0 := by
    have := (List.getElem?_eq_some_iff.1 h).1
    simp at this
    exact this
  subst hj
  simp at h
  subst h
  rw [Go.WideShapes.add_plain]
  exact (cell_of_row _ _ 0 #[v] t _ (heap_alloc_last _ _)).trans rfl
set_option maxRecDepth 100000 in
theorem limits_neg (x : Nat) (q : Int) (w : World) (hq : q < 0) : Calls Try.prog 3 #[.float .f64 x, .int .i64 q] w fun e w' => e = .returned (.bool true) ∧ Below w.heap.size w w' := by
  have d : decide (q < 0) = true := decide_eq_true hq
  go_enter Try.func3, Try.ntmps3
  go_wp2_with (go_at_call 9; refine (awake_any _).mono ?_)
  first | rintro e w1 rfl b1 | rintro e w1 ⟨rfl, b1⟩
  replace b1 : Hid (Below w.heap.size w w1) := b1
  go_wp2
  go_ret
  exact ⟨rfl, b1.out⟩
set_option maxRecDepth 100000 in
set_option maxHeartbeats 4000000 in
theorem limits_0 (x : Nat) (q : Int) (w : World) (hx : x < 18446744073709551616) (hq : 0 ≤ q) (ht : Int.tmod q 2 = 0) : Calls Try.prog 3 #[.float .f64 x, .int .i64 q] w fun e w' => e = .returned (.bool true) ∧ Below w.heap.size w w' := by
  obtain ⟨i0, hi, hz0, hz1, hz2⟩ := info_parts info25
  obtain ⟨j0, ji, jz0, jz1, jz2⟩ := info_parts info26
  obtain ⟨N, hN⟩ : ∃ N : Nat, N = 65536 := ⟨_, rfl⟩
  have HX : Hid (x < 18446744073709551616) := hx
  have HN : Hid (N = 65536) := hN
  have d : decide (q < 0) = false := decide_eq_false (by omega)
  have B0 : Hid (Below w.heap.size w ((w.alloc (.cells #[] 22)).alloc (.cells #[] 26))) := ((Below.refl _ _).alloc (Nat.le_refl _) _).alloc (by simp) _
  have O0 : Hid (((w.alloc (.cells #[] 22)).alloc (.cells #[] 26)).ownsRow w.heap.size 22 1 (.slice (some ⟨w.heap.size, 0, none⟩) 0 0) 0 (flt (List.replicate 0 x))) := (own_none2 w w.heap.size 22 (Nat.le_refl _)).alloc _
  have P0 : Hid (∃ ys : List Value, ((w.alloc (.cells #[] 22)).alloc (.cells #[] 26)).ownsRow w.heap.size 26 1 (.slice (some ⟨w.heap.size + 1, 0, none⟩) 0 0) 0 ys ∧ ∀ u ∈ ys, ∃ b, u = .float .f32 b) := ⟨[], by have := own_none2 (w.alloc (.cells #[] 22)) w.heap.size 26 (by simp); rwa [World.size_alloc] at this, fun u hu => by cases hu⟩
  clear hx hq hN
  go_enter Try.func3, Try.ntmps3
  go_wp2_with fail
  go_loopw [5, 6, 8] (fun l m y wr => ∃ k : Nat, k ≤ N ∧ y = .int .i64 (k : Int) ∧ Hid (wr.ownsRow w.heap.size 22 1 l k (flt (List.replicate k x))) ∧ Hid (∃ ys : List Value, wr.ownsRow w.heap.size 26 1 m k ys ∧ ∀ u ∈ ys, ∃ b, u = .float .f32 b) ∧ Hid (Below w.heap.size w wr)) (fun _ _ y _ => N - (intOf y).toNat)
  case atStart => exact ⟨0, Nat.zero_le _, rfl, O0, P0, B0⟩
  case round =>
    clear O0 P0 B0
    obtain ⟨k, hk, rfl, hO, hP, hB⟩ := hrel
    have hbsz := hB.out.size
    by_cases ck : k < N
    · have k2 : (k : Int) < 65536 := by have := HN.out; omega
      have kN : Hid (k < 65536) := by rw [Hid]; have := HN.out; omega
      have cn : Hid (∀ j u, [Value.float .f64 x][j]? = some u → (wr.alloc (.cells #[.float .f64 x] 22)).cell? ((⟨wr.heap.size, 0, none⟩ : Addr).add j) = some u) := cells_one wr _ 22
      go_wp2_with (at_builtin; refine wpList_append_own_at _ rfl _ _ 24 rfl w.heap.size 22 i0 _ 1 8 Try.underlying24 hi hz0 hz1 hz2 rfl (by decide) _ _ _ rfl (hO.out.alloc _) ⟨_, 0, none⟩ 1 1 [.float .f64 x] rfl rfl cn.out ?a2 ?a3 ?a4 ?a5 ?a6)
      case a2 => simp [Value.oneCell']
      case a3 => unfold maxLen; have := kN.out; omega
      case a4 => have := kN.out; omega
      case a5 => first | omega | (simp; omega)
      case a6 =>
        intro v1 W1 hown1 hgrow1 _ _
        obtain ⟨ys, hys, hyf⟩ := hP.out
        have O1 : Hid (W1.ownsRow w.heap.size 22 1 v1 (k + 1) (flt (List.replicate (k + 1) x))) := by rw [Hid, flt_rep]; exact hown1
        have P1 : Hid (W1.ownsRow w.heap.size 26 1 u6 k ys) := owns_kept (hys.alloc _) (hO.out.alloc _) (by decide) hgrow1
        have B1 : Hid (Below w.heap.size w W1) := (hB.out.alloc (by have := hB.out.size; omega) _).grown hgrow1 (by have := hB.out.size; simp at this ⊢; omega) (fun j hj => (hO.out.lt j hj).1)
        have hyf2 : Hid (∀ u ∈ ys, ∃ b, u = .float .f32 b) := hyf
        clear hown1 hgrow1 hys hyf hO hP hB cn hbsz
        go_wp2_with (refine wpList_cv rfl _ rfl _ rfl ?_)
        intro r W2 al
        have O2 : Hid (W2.ownsRow w.heap.size 22 1 v1 (k + 1) (flt (List.replicate (k + 1) x))) := owns_below O1.out (al.out.below _)
        have P2 : Hid (W2.ownsRow w.heap.size 26 1 u6 k ys) := owns_below P1.out (al.out.below _)
        have B2 : Hid (Below w.heap.size w W2) := B1.out.trans (al.out.below _)
        have hb2 := B2.out.size
        have cn2 : Hid (∀ j u, [Value.float .f32 r][j]? = some u → (W2.alloc (.cells #[.float .f32 r] 26)).cell? ((⟨W2.heap.size, 0, none⟩ : Addr).add j) = some u) := cells_one W2 _ 26
        clear al O1 P1 B1
        go_wp2_with (at_builtin; refine wpList_append_own_at _ rfl _ _ 25 rfl w.heap.size 26 j0 _ 1 4 Try.underlying25 ji jz0 jz1 jz2 rfl (by decide) _ _ _ rfl (P2.out.alloc _) ⟨_, 0, none⟩ 1 1 [.float .f32 r] rfl rfl cn2.out ?b2 ?b3 ?b4 ?b5 ?b6)
        case b2 => simp [Value.oneCell']
        case b3 => unfold maxLen; have := kN.out; omega
        case b4 => have := kN.out; omega
        case b5 => first | omega | (simp; omega)
        case b6 =>
          intro v3 W3 hown3 hgrow3 _ _
          have O3 : Hid (W3.ownsRow w.heap.size 22 1 v1 (k + 1) (flt (List.replicate (k + 1) x))) := owns_kept (O2.out.alloc _) (P2.out.alloc _) (by decide) hgrow3
          have P3 : Hid (∃ ys : List Value, W3.ownsRow w.heap.size 26 1 v3 (k + 1) ys ∧ ∀ u ∈ ys, ∃ b, u = .float .f32 b) := ⟨_, hown3, fun u hu => by
            rcases List.mem_append.1 hu with h | h
            · exact hyf2.out u h
            · exact ⟨r, by simpa using h⟩⟩
          have B3 : Hid (Below w.heap.size w W3) := (B2.out.alloc (by have := B2.out.size; omega) _).grown hgrow3 (by have := B2.out.size; simp at this ⊢; omega) (fun j hj => (P2.out.lt j hj).1)
          clear hown3 hgrow3 O2 P2 B2 hyf2 cn2 hb2
          go_wp2
          exact ⟨⟨k + 1, by have := kN.out; have := HN.out; omega, by go_num, O3, P3, B3⟩, by have := kN.out; have := HN.out; simp [intOf]; omega⟩
    · have hkN : k = N := by omega
      have k2 : decide ((k : Int) < 65536) = false := decide_eq_false (by have := HN.out; omega)
      have k3 : ¬ ((k : Int) < 65536) := by have := HN.out; omega
      have FL : Hid (∀ b ∈ List.replicate N x, b < 18446744073709551616) := fun b hb => by rw [List.eq_of_mem_replicate hb]; exact HX.out
      have hO1 := hO.out
      rw [hkN] at hO1
      obtain ⟨ys, hys, hyf⟩ := hP.out
      rw [hkN] at hys
      have RL : Hid (RdF .f64 wr u5 N) := RdF.of_owns hO1 (fun u hu => by
        simp only [flt, List.mem_map] at hu
        obtain ⟨b, _, rfl⟩ := hu
        exact ⟨b, rfl⟩)
      have RD : Hid (Rd wr u5 (flt (List.replicate N x))) := Rd.of_owns (by rw [flt_len, List.length_replicate]; exact hO1)
      have RM : Hid (RdF .f32 wr u6 N) := RdF.of_owns hys hyf
      obtain ⟨pl, cl, rfl, hcl, hgl⟩ := RL.out
      obtain ⟨gl, ol, rfl, -⟩ := hgl (by have := HN.out; omega)
      obtain ⟨pm, cm, rfl, -, -⟩ := RM.out
      replace hcl : Hid (N ≤ cl) := hcl
      clear hO hP hO1 hys hyf hkN
      have K13 : Hid (∀ W, Rd W (.slice (some ⟨gl, ol, none⟩) N cl) (flt (List.replicate N x)) → Calls Try.prog 13 #[.slice (some ⟨gl, ol, none⟩) N cl] W fun e w' => ∃ r s, e = .returned (.tuple #[.float .f64 r, .float .f64 s, .int .i64 0]) ∧ Below W.heap.size W w') := fun W h => (kept_any _ _ W FL.out (by rw [List.length_replicate]; have := HN.out; omega) h).mono fun e w' ⟨r, s, h1, _, _, h2⟩ => ⟨r, s, h1, h2.below _⟩
      have K14 : Hid (∀ W, Rd W (.slice (some ⟨gl, ol, none⟩) N cl) (flt (List.replicate N x)) → Calls Try.prog 14 #[.slice (some ⟨gl, ol, none⟩) N cl] W fun e w' => ∃ r, e = .returned (.tuple #[.float .f64 r, .int .i64 0]) ∧ Below W.heap.size W w') := fun W h => (exact_any _ _ W FL.out (by rw [List.length_replicate]; have := HN.out; omega) h).mono fun e w' ⟨h1, h2⟩ => ⟨_, h1, h2⟩
      have K15 : Hid (∀ W, Calls Try.prog 15 #[.slice (some ⟨gl, ol, none⟩) N cl, .slice (some ⟨gl, ol, none⟩) 0 cl] W fun e w' => e = .returned (.tuple #[.float .f64 0, .int .i64 51]) ∧ Below W.heap.size W w') := fun W => (dot_ne 15 N 0 cl cl _ _ W (by have := HN.out; omega) (by omega) (by have := HN.out; omega) (.inl rfl)).mono fun e w' ⟨h1, h2⟩ => ⟨h1, by rw [h2]; exact Below.refl _ _⟩
      have K16 : Hid (∀ W, Rd W (.slice (some ⟨gl, ol, none⟩) N cl) (flt (List.replicate N x)) → Calls Try.prog 16 #[.slice (some ⟨gl, ol, none⟩) N cl] W fun e w' => ∃ r, e = .returned (.tuple #[.float .f64 r, .int .i64 0]) ∧ Below W.heap.size W w') := fun W h => mean_w _ _ W FL.out (by rw [List.length_replicate]; have := HN.out; omega) (by rw [List.length_replicate]; have := HN.out; omega) h
      have K17 : Hid (∀ W, Rd W (.slice (some ⟨gl, ol, none⟩) N cl) (flt (List.replicate N x)) → Calls Try.prog 17 #[.slice (some ⟨gl, ol, none⟩) N cl, .float .f64 4607182418800017408] W fun e w' => ∃ r, e = .returned (.tuple #[.float .f64 r, .int .i64 0]) ∧ Below W.heap.size W w') := fun W h => by
        have hp := poly_any (List.replicate N x) (some ⟨gl, ol, none⟩) cl 4607182418800017408 (inj 4607182418800017408) W FL.out (by rw [List.length_replicate]; have := HN.out; omega) (by rw [List.length_replicate]; have := HN.out; omega) (is_inj (by decide)) (by rw [List.length_replicate]; exact h)
        rw [List.length_replicate] at hp
        exact hp.mono fun e w' ⟨r, h1, _, h2⟩ => ⟨r, h1, h2.below _⟩
      have K19 : Hid (∀ W, Rd W (.slice (some ⟨gl, ol, none⟩) N cl) (flt (List.replicate N x)) → Calls Try.prog 19 #[.slice (some ⟨gl, ol, none⟩) N cl, .slice (some ⟨gl, ol, none⟩) N cl] W fun e w' => ∃ r, e = .returned (.tuple #[.float .f64 r, .int .i64 0]) ∧ Below W.heap.size W w') := fun W h => by
        have hp := exdot_any (List.replicate N x) (List.replicate N x) (some ⟨gl, ol, none⟩) (some ⟨gl, ol, none⟩) cl cl W FL.out FL.out (by rw [List.length_replicate]; have := HN.out; omega) rfl (by rw [List.length_replicate]; exact h) (by rw [List.length_replicate]; exact h)
        rw [List.length_replicate] at hp
        exact hp.mono fun e w' ⟨h1, h2⟩ => ⟨_, h1, h2⟩
      go_wp2_with (go_at_call 10; refine (sum_f64_w N _ _ (by have := HN.out; omega) RL.out).mono ?_)
      first | rintro e w1 r1 rfl bb | rintro e w1 ⟨r1, rfl, bb⟩
      replace RL : Hid (RdF .f64 w1 (.slice (some ⟨gl, ol, none⟩) N cl) N) := RL.out.below bb
      replace RD : Hid (Rd w1 (.slice (some ⟨gl, ol, none⟩) N cl) (flt (List.replicate N x))) := RD.out.below bb
      replace RM : Hid (RdF .f32 w1 (.slice pm N cm) N) := RM.out.below bb
      replace hB : Hid (Below w.heap.size w w1) := hB.out.trans (bb.mono hB.out.size)
      clear bb
      go_wp2_with (go_at_call 11; refine (sum_f32_w N _ _ (by have := HN.out; omega) RM.out).mono ?_)
      first | rintro e w2 r2 rfl bb | rintro e w2 ⟨r2, rfl, bb⟩
      replace RL : Hid (RdF .f64 w2 (.slice (some ⟨gl, ol, none⟩) N cl) N) := RL.out.below bb
      replace RD : Hid (Rd w2 (.slice (some ⟨gl, ol, none⟩) N cl) (flt (List.replicate N x))) := RD.out.below bb
      replace RM : Hid (RdF .f32 w2 (.slice pm N cm) N) := RM.out.below bb
      replace hB : Hid (Below w.heap.size w w2) := hB.out.trans (bb.mono hB.out.size)
      clear bb
      go_wp2_with (go_at_call 12; refine (halves_w N _ _ (by have := HN.out; omega) RL.out).mono ?_)
      first | rintro e w3 r3 rfl bb | rintro e w3 ⟨r3, rfl, bb⟩
      replace RL : Hid (RdF .f64 w3 (.slice (some ⟨gl, ol, none⟩) N cl) N) := RL.out.below bb
      replace RD : Hid (Rd w3 (.slice (some ⟨gl, ol, none⟩) N cl) (flt (List.replicate N x))) := RD.out.below bb
      replace RM : Hid (RdF .f32 w3 (.slice pm N cm) N) := RM.out.below bb
      replace hB : Hid (Below w.heap.size w w3) := hB.out.trans (bb.mono hB.out.size)
      clear bb
      go_wp2_with (go_at_call 13; refine (K13.out _ RD.out).mono ?_)
      first | rintro e w4 r4 r5 rfl bb | rintro e w4 ⟨r4, r5, rfl, bb⟩
      replace RL : Hid (RdF .f64 w4 (.slice (some ⟨gl, ol, none⟩) N cl) N) := RL.out.below bb
      replace RD : Hid (Rd w4 (.slice (some ⟨gl, ol, none⟩) N cl) (flt (List.replicate N x))) := RD.out.below bb
      replace RM : Hid (RdF .f32 w4 (.slice pm N cm) N) := RM.out.below bb
      replace hB : Hid (Below w.heap.size w w4) := hB.out.trans (bb.mono hB.out.size)
      clear bb
      go_wp2_with (go_at_call 14; refine (K14.out _ RD.out).mono ?_)
      first | rintro e w5 r6 rfl bb | rintro e w5 ⟨r6, rfl, bb⟩
      replace RL : Hid (RdF .f64 w5 (.slice (some ⟨gl, ol, none⟩) N cl) N) := RL.out.below bb
      replace RD : Hid (Rd w5 (.slice (some ⟨gl, ol, none⟩) N cl) (flt (List.replicate N x))) := RD.out.below bb
      replace RM : Hid (RdF .f32 w5 (.slice pm N cm) N) := RM.out.below bb
      replace hB : Hid (Below w.heap.size w w5) := hB.out.trans (bb.mono hB.out.size)
      clear bb
      go_wp2_with (go_at_call 15; refine (K15.out _).mono ?_)
      first | rintro e w6 rfl bb | rintro e w6 ⟨rfl, bb⟩
      replace RL : Hid (RdF .f64 w6 (.slice (some ⟨gl, ol, none⟩) N cl) N) := RL.out.below bb
      replace RD : Hid (Rd w6 (.slice (some ⟨gl, ol, none⟩) N cl) (flt (List.replicate N x))) := RD.out.below bb
      replace RM : Hid (RdF .f32 w6 (.slice pm N cm) N) := RM.out.below bb
      replace hB : Hid (Below w.heap.size w w6) := hB.out.trans (bb.mono hB.out.size)
      clear bb
      go_wp2_with (go_at_call 16; refine (K16.out _ RD.out).mono ?_)
      first | rintro e w7 r7 rfl bb | rintro e w7 ⟨r7, rfl, bb⟩
      replace RL : Hid (RdF .f64 w7 (.slice (some ⟨gl, ol, none⟩) N cl) N) := RL.out.below bb
      replace RD : Hid (Rd w7 (.slice (some ⟨gl, ol, none⟩) N cl) (flt (List.replicate N x))) := RD.out.below bb
      replace RM : Hid (RdF .f32 w7 (.slice pm N cm) N) := RM.out.below bb
      replace hB : Hid (Below w.heap.size w w7) := hB.out.trans (bb.mono hB.out.size)
      clear bb
      go_wp2_with (go_at_call 17; refine (K17.out _ RD.out).mono ?_)
      first | rintro e w8 r8 rfl bb | rintro e w8 ⟨r8, rfl, bb⟩
      replace RL : Hid (RdF .f64 w8 (.slice (some ⟨gl, ol, none⟩) N cl) N) := RL.out.below bb
      replace RD : Hid (Rd w8 (.slice (some ⟨gl, ol, none⟩) N cl) (flt (List.replicate N x))) := RD.out.below bb
      replace RM : Hid (RdF .f32 w8 (.slice pm N cm) N) := RM.out.below bb
      replace hB : Hid (Below w.heap.size w w8) := hB.out.trans (bb.mono hB.out.size)
      clear bb
      go_wp2_with (go_at_call 18; refine (prefix_w N _ _ (by have := HN.out; omega) RL.out).mono ?_)
      first | rintro e w9 r9 rfl bb | rintro e w9 ⟨r9, rfl, bb⟩
      replace RL : Hid (RdF .f64 w9 (.slice (some ⟨gl, ol, none⟩) N cl) N) := RL.out.below bb
      replace RD : Hid (Rd w9 (.slice (some ⟨gl, ol, none⟩) N cl) (flt (List.replicate N x))) := RD.out.below bb
      replace RM : Hid (RdF .f32 w9 (.slice pm N cm) N) := RM.out.below bb
      replace hB : Hid (Below w.heap.size w w9) := hB.out.trans (bb.mono hB.out.size)
      clear bb
      go_wp2_with (go_at_call 19; refine (K19.out _ RD.out).mono ?_)
      first | rintro e w10 r10 rfl bb | rintro e w10 ⟨r10, rfl, bb⟩
      replace RL : Hid (RdF .f64 w10 (.slice (some ⟨gl, ol, none⟩) N cl) N) := RL.out.below bb
      replace RD : Hid (Rd w10 (.slice (some ⟨gl, ol, none⟩) N cl) (flt (List.replicate N x))) := RD.out.below bb
      replace RM : Hid (RdF .f32 w10 (.slice pm N cm) N) := RM.out.below bb
      replace hB : Hid (Below w.heap.size w w10) := hB.out.trans (bb.mono hB.out.size)
      clear bb
      go_wp2_with (go_at_call 9; refine (awake_any _).mono ?_)
      first | rintro e w11 rfl bb | rintro e w11 ⟨rfl, bb⟩
      replace RL : Hid (RdF .f64 w11 (.slice (some ⟨gl, ol, none⟩) N cl) N) := RL.out.below bb
      replace RD : Hid (Rd w11 (.slice (some ⟨gl, ol, none⟩) N cl) (flt (List.replicate N x))) := RD.out.below bb
      replace RM : Hid (RdF .f32 w11 (.slice pm N cm) N) := RM.out.below bb
      replace hB : Hid (Below w.heap.size w w11) := hB.out.trans (bb.mono hB.out.size)
      clear bb
      go_wp2
      go_ret
      exact ⟨rfl, hB.out⟩
set_option maxRecDepth 100000 in
set_option maxHeartbeats 4000000 in
theorem limits_1 (x : Nat) (q : Int) (w : World) (hx : x < 18446744073709551616) (hq : 0 ≤ q) (ht : Int.tmod q 2 = 1) : Calls Try.prog 3 #[.float .f64 x, .int .i64 q] w fun e w' => e = .returned (.bool true) ∧ Below w.heap.size w w' := by
  obtain ⟨i0, hi, hz0, hz1, hz2⟩ := info_parts info25
  obtain ⟨j0, ji, jz0, jz1, jz2⟩ := info_parts info26
  obtain ⟨N, hN⟩ : ∃ N : Nat, N = 65537 := ⟨_, rfl⟩
  have HX : Hid (x < 18446744073709551616) := hx
  have HN : Hid (N = 65537) := hN
  have d : decide (q < 0) = false := decide_eq_false (by omega)
  have B0 : Hid (Below w.heap.size w ((w.alloc (.cells #[] 22)).alloc (.cells #[] 26))) := ((Below.refl _ _).alloc (Nat.le_refl _) _).alloc (by simp) _
  have O0 : Hid (((w.alloc (.cells #[] 22)).alloc (.cells #[] 26)).ownsRow w.heap.size 22 1 (.slice (some ⟨w.heap.size, 0, none⟩) 0 0) 0 (flt (List.replicate 0 x))) := (own_none2 w w.heap.size 22 (Nat.le_refl _)).alloc _
  have P0 : Hid (∃ ys : List Value, ((w.alloc (.cells #[] 22)).alloc (.cells #[] 26)).ownsRow w.heap.size 26 1 (.slice (some ⟨w.heap.size + 1, 0, none⟩) 0 0) 0 ys ∧ ∀ u ∈ ys, ∃ b, u = .float .f32 b) := ⟨[], by have := own_none2 (w.alloc (.cells #[] 22)) w.heap.size 26 (by simp); rwa [World.size_alloc] at this, fun u hu => by cases hu⟩
  clear hx hq hN
  go_enter Try.func3, Try.ntmps3
  go_wp2_with fail
  go_loopw [5, 6, 8] (fun l m y wr => ∃ k : Nat, k ≤ N ∧ y = .int .i64 (k : Int) ∧ Hid (wr.ownsRow w.heap.size 22 1 l k (flt (List.replicate k x))) ∧ Hid (∃ ys : List Value, wr.ownsRow w.heap.size 26 1 m k ys ∧ ∀ u ∈ ys, ∃ b, u = .float .f32 b) ∧ Hid (Below w.heap.size w wr)) (fun _ _ y _ => N - (intOf y).toNat)
  case atStart => exact ⟨0, Nat.zero_le _, rfl, O0, P0, B0⟩
  case round =>
    clear O0 P0 B0
    obtain ⟨k, hk, rfl, hO, hP, hB⟩ := hrel
    have hbsz := hB.out.size
    by_cases ck : k < N
    · have k2 : (k : Int) < 65537 := by have := HN.out; omega
      have kN : Hid (k < 65537) := by rw [Hid]; have := HN.out; omega
      have cn : Hid (∀ j u, [Value.float .f64 x][j]? = some u → (wr.alloc (.cells #[.float .f64 x] 22)).cell? ((⟨wr.heap.size, 0, none⟩ : Addr).add j) = some u) := cells_one wr _ 22
      go_wp2_with (at_builtin; refine wpList_append_own_at _ rfl _ _ 24 rfl w.heap.size 22 i0 _ 1 8 Try.underlying24 hi hz0 hz1 hz2 rfl (by decide) _ _ _ rfl (hO.out.alloc _) ⟨_, 0, none⟩ 1 1 [.float .f64 x] rfl rfl cn.out ?a2 ?a3 ?a4 ?a5 ?a6)
      case a2 => simp [Value.oneCell']
      case a3 => unfold maxLen; have := kN.out; omega
      case a4 => have := kN.out; omega
      case a5 => first | omega | (simp; omega)
      case a6 =>
        intro v1 W1 hown1 hgrow1 _ _
        obtain ⟨ys, hys, hyf⟩ := hP.out
        have O1 : Hid (W1.ownsRow w.heap.size 22 1 v1 (k + 1) (flt (List.replicate (k + 1) x))) := by rw [Hid, flt_rep]; exact hown1
        have P1 : Hid (W1.ownsRow w.heap.size 26 1 u6 k ys) := owns_kept (hys.alloc _) (hO.out.alloc _) (by decide) hgrow1
        have B1 : Hid (Below w.heap.size w W1) := (hB.out.alloc (by have := hB.out.size; omega) _).grown hgrow1 (by have := hB.out.size; simp at this ⊢; omega) (fun j hj => (hO.out.lt j hj).1)
        have hyf2 : Hid (∀ u ∈ ys, ∃ b, u = .float .f32 b) := hyf
        clear hown1 hgrow1 hys hyf hO hP hB cn hbsz
        go_wp2_with (refine wpList_cv rfl _ rfl _ rfl ?_)
        intro r W2 al
        have O2 : Hid (W2.ownsRow w.heap.size 22 1 v1 (k + 1) (flt (List.replicate (k + 1) x))) := owns_below O1.out (al.out.below _)
        have P2 : Hid (W2.ownsRow w.heap.size 26 1 u6 k ys) := owns_below P1.out (al.out.below _)
        have B2 : Hid (Below w.heap.size w W2) := B1.out.trans (al.out.below _)
        have hb2 := B2.out.size
        have cn2 : Hid (∀ j u, [Value.float .f32 r][j]? = some u → (W2.alloc (.cells #[.float .f32 r] 26)).cell? ((⟨W2.heap.size, 0, none⟩ : Addr).add j) = some u) := cells_one W2 _ 26
        clear al O1 P1 B1
        go_wp2_with (at_builtin; refine wpList_append_own_at _ rfl _ _ 25 rfl w.heap.size 26 j0 _ 1 4 Try.underlying25 ji jz0 jz1 jz2 rfl (by decide) _ _ _ rfl (P2.out.alloc _) ⟨_, 0, none⟩ 1 1 [.float .f32 r] rfl rfl cn2.out ?b2 ?b3 ?b4 ?b5 ?b6)
        case b2 => simp [Value.oneCell']
        case b3 => unfold maxLen; have := kN.out; omega
        case b4 => have := kN.out; omega
        case b5 => first | omega | (simp; omega)
        case b6 =>
          intro v3 W3 hown3 hgrow3 _ _
          have O3 : Hid (W3.ownsRow w.heap.size 22 1 v1 (k + 1) (flt (List.replicate (k + 1) x))) := owns_kept (O2.out.alloc _) (P2.out.alloc _) (by decide) hgrow3
          have P3 : Hid (∃ ys : List Value, W3.ownsRow w.heap.size 26 1 v3 (k + 1) ys ∧ ∀ u ∈ ys, ∃ b, u = .float .f32 b) := ⟨_, hown3, fun u hu => by
            rcases List.mem_append.1 hu with h | h
            · exact hyf2.out u h
            · exact ⟨r, by simpa using h⟩⟩
          have B3 : Hid (Below w.heap.size w W3) := (B2.out.alloc (by have := B2.out.size; omega) _).grown hgrow3 (by have := B2.out.size; simp at this ⊢; omega) (fun j hj => (P2.out.lt j hj).1)
          clear hown3 hgrow3 O2 P2 B2 hyf2 cn2 hb2
          go_wp2
          exact ⟨⟨k + 1, by have := kN.out; have := HN.out; omega, by go_num, O3, P3, B3⟩, by have := kN.out; have := HN.out; simp [intOf]; omega⟩
    · have hkN : k = N := by omega
      have k2 : decide ((k : Int) < 65537) = false := decide_eq_false (by have := HN.out; omega)
      have k3 : ¬ ((k : Int) < 65537) := by have := HN.out; omega
      have FL : Hid (∀ b ∈ List.replicate N x, b < 18446744073709551616) := fun b hb => by rw [List.eq_of_mem_replicate hb]; exact HX.out
      have hO1 := hO.out
      rw [hkN] at hO1
      obtain ⟨ys, hys, hyf⟩ := hP.out
      rw [hkN] at hys
      have RL : Hid (RdF .f64 wr u5 N) := RdF.of_owns hO1 (fun u hu => by
        simp only [flt, List.mem_map] at hu
        obtain ⟨b, _, rfl⟩ := hu
        exact ⟨b, rfl⟩)
      have RD : Hid (Rd wr u5 (flt (List.replicate N x))) := Rd.of_owns (by rw [flt_len, List.length_replicate]; exact hO1)
      have RM : Hid (RdF .f32 wr u6 N) := RdF.of_owns hys hyf
      obtain ⟨pl, cl, rfl, hcl, hgl⟩ := RL.out
      obtain ⟨gl, ol, rfl, -⟩ := hgl (by have := HN.out; omega)
      obtain ⟨pm, cm, rfl, -, -⟩ := RM.out
      replace hcl : Hid (N ≤ cl) := hcl
      clear hO hP hO1 hys hyf hkN
      go_wp2_with (go_at_call 10; refine (long_10 N _ _ _ (by have := HN.out; omega) (by have := HN.out; omega)).mono ?_)
      first | rintro e w1 rfl bb | rintro e w1 ⟨rfl, bb⟩
      replace RL : Hid (RdF .f64 w1 (.slice (some ⟨gl, ol, none⟩) N cl) N) := RL.out.below bb
      replace RD : Hid (Rd w1 (.slice (some ⟨gl, ol, none⟩) N cl) (flt (List.replicate N x))) := RD.out.below bb
      replace RM : Hid (RdF .f32 w1 (.slice pm N cm) N) := RM.out.below bb
      replace hB : Hid (Below w.heap.size w w1) := hB.out.trans (bb.mono hB.out.size)
      clear bb
      go_wp2_with (go_at_call 11; refine (long_11 N _ _ _ (by have := HN.out; omega) (by have := HN.out; omega)).mono ?_)
      first | rintro e w2 rfl bb | rintro e w2 ⟨rfl, bb⟩
      replace RL : Hid (RdF .f64 w2 (.slice (some ⟨gl, ol, none⟩) N cl) N) := RL.out.below bb
      replace RD : Hid (Rd w2 (.slice (some ⟨gl, ol, none⟩) N cl) (flt (List.replicate N x))) := RD.out.below bb
      replace RM : Hid (RdF .f32 w2 (.slice pm N cm) N) := RM.out.below bb
      replace hB : Hid (Below w.heap.size w w2) := hB.out.trans (bb.mono hB.out.size)
      clear bb
      go_wp2_with (go_at_call 12; refine (long_12 N _ _ _ (by have := HN.out; omega) (by have := HN.out; omega)).mono ?_)
      first | rintro e w3 rfl bb | rintro e w3 ⟨rfl, bb⟩
      replace RL : Hid (RdF .f64 w3 (.slice (some ⟨gl, ol, none⟩) N cl) N) := RL.out.below bb
      replace RD : Hid (Rd w3 (.slice (some ⟨gl, ol, none⟩) N cl) (flt (List.replicate N x))) := RD.out.below bb
      replace RM : Hid (RdF .f32 w3 (.slice pm N cm) N) := RM.out.below bb
      replace hB : Hid (Below w.heap.size w w3) := hB.out.trans (bb.mono hB.out.size)
      clear bb
      go_wp2_with (go_at_call 13; refine (long_13 N _ _ _ (by have := HN.out; omega) (by have := HN.out; omega)).mono ?_)
      first | rintro e w4 rfl bb | rintro e w4 ⟨rfl, bb⟩
      replace RL : Hid (RdF .f64 w4 (.slice (some ⟨gl, ol, none⟩) N cl) N) := RL.out.below bb
      replace RD : Hid (Rd w4 (.slice (some ⟨gl, ol, none⟩) N cl) (flt (List.replicate N x))) := RD.out.below bb
      replace RM : Hid (RdF .f32 w4 (.slice pm N cm) N) := RM.out.below bb
      replace hB : Hid (Below w.heap.size w w4) := hB.out.trans (bb.mono hB.out.size)
      clear bb
      go_wp2_with (go_at_call 14; refine (ex_long _ N _ _ (by have := HN.out; omega) (by have := HN.out; omega)).mono ?_)
      first | rintro e w5 rfl bb | rintro e w5 ⟨rfl, bb⟩
      replace RL : Hid (RdF .f64 w5 (.slice (some ⟨gl, ol, none⟩) N cl) N) := RL.out.below bb
      replace RD : Hid (Rd w5 (.slice (some ⟨gl, ol, none⟩) N cl) (flt (List.replicate N x))) := RD.out.below bb
      replace RM : Hid (RdF .f32 w5 (.slice pm N cm) N) := RM.out.below bb
      replace hB : Hid (Below w.heap.size w w5) := hB.out.trans (bb.mono hB.out.size)
      clear bb
      go_wp2_with (go_at_call 15; refine (long_15 N 0 _ _ _ _ _ (by have := HN.out; omega) (by omega) (by have := HN.out; omega)).mono ?_)
      first | rintro e w6 rfl bb | rintro e w6 ⟨rfl, bb⟩
      replace RL : Hid (RdF .f64 w6 (.slice (some ⟨gl, ol, none⟩) N cl) N) := RL.out.below bb
      replace RD : Hid (Rd w6 (.slice (some ⟨gl, ol, none⟩) N cl) (flt (List.replicate N x))) := RD.out.below bb
      replace RM : Hid (RdF .f32 w6 (.slice pm N cm) N) := RM.out.below bb
      replace hB : Hid (Below w.heap.size w w6) := hB.out.trans (bb.mono hB.out.size)
      clear bb
      go_wp2_with (go_at_call 16; refine (long_16 N _ _ _ (by have := HN.out; omega) (by have := HN.out; omega)).mono ?_)
      first | rintro e w7 rfl bb | rintro e w7 ⟨rfl, bb⟩
      replace RL : Hid (RdF .f64 w7 (.slice (some ⟨gl, ol, none⟩) N cl) N) := RL.out.below bb
      replace RD : Hid (Rd w7 (.slice (some ⟨gl, ol, none⟩) N cl) (flt (List.replicate N x))) := RD.out.below bb
      replace RM : Hid (RdF .f32 w7 (.slice pm N cm) N) := RM.out.below bb
      replace hB : Hid (Below w.heap.size w w7) := hB.out.trans (bb.mono hB.out.size)
      clear bb
      go_wp2_with (go_at_call 17; refine (long_17 N _ _ _ _ (by have := HN.out; omega) (by have := HN.out; omega)).mono ?_)
      first | rintro e w8 rfl bb | rintro e w8 ⟨rfl, bb⟩
      replace RL : Hid (RdF .f64 w8 (.slice (some ⟨gl, ol, none⟩) N cl) N) := RL.out.below bb
      replace RD : Hid (Rd w8 (.slice (some ⟨gl, ol, none⟩) N cl) (flt (List.replicate N x))) := RD.out.below bb
      replace RM : Hid (RdF .f32 w8 (.slice pm N cm) N) := RM.out.below bb
      replace hB : Hid (Below w.heap.size w w8) := hB.out.trans (bb.mono hB.out.size)
      clear bb
      go_wp2_with (go_at_call 18; refine (long_18 N _ _ _ (by have := HN.out; omega) (by have := HN.out; omega)).mono ?_)
      first | rintro e w9 rfl bb | rintro e w9 ⟨rfl, bb⟩
      replace RL : Hid (RdF .f64 w9 (.slice (some ⟨gl, ol, none⟩) N cl) N) := RL.out.below bb
      replace RD : Hid (Rd w9 (.slice (some ⟨gl, ol, none⟩) N cl) (flt (List.replicate N x))) := RD.out.below bb
      replace RM : Hid (RdF .f32 w9 (.slice pm N cm) N) := RM.out.below bb
      replace hB : Hid (Below w.heap.size w w9) := hB.out.trans (bb.mono hB.out.size)
      clear bb
      go_wp2_with (go_at_call 19; refine (long_19 N N _ _ _ _ _ (by have := HN.out; omega) (by omega) (by have := HN.out; omega)).mono ?_)
      first | rintro e w10 rfl bb | rintro e w10 ⟨rfl, bb⟩
      replace RL : Hid (RdF .f64 w10 (.slice (some ⟨gl, ol, none⟩) N cl) N) := RL.out.below bb
      replace RD : Hid (Rd w10 (.slice (some ⟨gl, ol, none⟩) N cl) (flt (List.replicate N x))) := RD.out.below bb
      replace RM : Hid (RdF .f32 w10 (.slice pm N cm) N) := RM.out.below bb
      replace hB : Hid (Below w.heap.size w w10) := hB.out.trans (bb.mono hB.out.size)
      clear bb
      go_wp2_with (go_at_call 9; refine (awake_any _).mono ?_)
      first | rintro e w11 rfl bb | rintro e w11 ⟨rfl, bb⟩
      replace RL : Hid (RdF .f64 w11 (.slice (some ⟨gl, ol, none⟩) N cl) N) := RL.out.below bb
      replace RD : Hid (Rd w11 (.slice (some ⟨gl, ol, none⟩) N cl) (flt (List.replicate N x))) := RD.out.below bb
      replace RM : Hid (RdF .f32 w11 (.slice pm N cm) N) := RM.out.below bb
      replace hB : Hid (Below w.heap.size w w11) := hB.out.trans (bb.mono hB.out.size)
      clear bb
      go_wp2
      go_ret
      exact ⟨rfl, hB.out⟩
theorem law_limits (x : Nat) (q : Int) (w : World) (hx : x < 18446744073709551616) : Calls Try.prog 3 #[.float .f64 x, .int .i64 q] w fun e w' => e = .returned (.bool true) ∧ Below w.heap.size w w' := by
  by_cases hq : q < 0
  · exact limits_neg x q w hq
  · have h : Int.tmod q 2 = q % 2 := Int.tmod_eq_emod_of_nonneg (by omega)
    have h2 : q % 2 = 0 ∨ q % 2 = 1 := by omega
    rcases h2 with h2 | h2
    · exact limits_0 x q w hx (by omega) (by rw [h, h2])
    · exact limits_1 x q w hx (by omega) (by rw [h, h2])
end Go.Proofs.Ytdhfkdopcphjlab
