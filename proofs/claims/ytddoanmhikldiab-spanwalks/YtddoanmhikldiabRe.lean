/-
  The contracts of rest and limited: what is not in a set. Conditions: the list is a set.
-/
import Derived.Test.YtddoanmhikldiabMk
namespace Go.Proofs.Ytddoanmhikldiab
open Go.RowKit
set_option maxRecDepth 100000 in
set_option maxHeartbeats 1000000 in
theorem rest_any (L : List Sn) (v : Value) (w : World) (hr : RdS w v L) (hs : isS 0 L = true) (hl : L.length ≤ 1000000) : Calls Try.prog 25 #[v] w fun e w' => ∃ v', e = .returned v' ∧ w'.ownsRow w.heap.size 41 2 v' (restL 0 L).length (celS (restL 0 L)) ∧ Below w.heap.size w w' := by
  obtain ⟨i0, hi, hz0, hz1, hz2⟩ := info_parts info57
  obtain ⟨a, c, rfl, hlc, hc⟩ := hr
  have HC : Hid _ := hc
  have HS : Hid (isS 0 L = true) := hs
  clear hc hs
  go_enter Try.func25, Try.ntmps25
  go_wp2_with fail
  go_loopw [3, 4, 9] (fun z x y wr => ∃ (k : Nat) (O : List Sn) (nx : Int), k ≤ L.length ∧ O.length ≤ k ∧ y = .int .i64 (k : Nat) ∧ x = .int .i32 nx ∧ 0 ≤ nx ∧ nx ≤ 1114112 ∧ Hid (O ++ restL nx (L.drop k) = restL 0 L) ∧ Hid (wr.ownsRow w.heap.size 41 2 z O.length (celS O)) ∧ Hid (Below w.heap.size w wr)) (fun _ _ y _ => (L.length - (intOf y).toNat : Nat))
  case atStart => exact ⟨0, [], 0, Nat.zero_le _, Nat.le_refl _, rfl, rfl, by decide, by decide, rfl, World.ownsRow_nil _ _ _ _, Below.refl _ _⟩
  case round =>
    obtain ⟨k, O, nx, hk, hOk, rfl, rfl, hn0, hn1, hE, hO, hB⟩ := hrel
    have hbs := hB.out.size
    by_cases hkl : k < L.length
    · obtain ⟨g, off, rfl, hd⟩ := HC.out (by omega)
      obtain ⟨d1, d2⟩ := hd k hkl
      have kl : (k : Int) < (L.length : Int) := by omega
      have g1 := World.block_lt_of_cell? w _ d1
      have e1 := (hB.out.cell (p := ⟨g, off + k * 2, none⟩) (by simpa using g1)).trans d1
      have e2 := (hB.out.cell (p := ⟨g, off + k * 2 + 1, none⟩) (by simpa using g1)).trans d2
      clear d1 d2 hd g1 HC
      have hm : Hid _ := may_iff.1 (isS_mem HS.out _ (get_mem L k hkl)).1
      have hdr : Hid (L.drop k = L.getD k (0, 0) :: L.drop (k + 1)) := by
        rw [Hid, List.drop_eq_getElem_cons hkl]; simp [List.getD, List.getElem?_eq_getElem hkl]
      generalize L.getD k (0, 0) = s at *
      obtain ⟨x, y⟩ := s
      obtain ⟨m1, m2, m3⟩ := hm.out
      simp only at m1 m2 m3
      obtain ⟨x1, x2⟩ := box2 wr x y 41
      have O1 : Hid ((wr.alloc (.cells #[.int .i32 x, .int .i32 y] 41)).ownsRow w.heap.size 41 2 u3 O.length (celS O)) := hO.out.alloc _
      have B1 : Hid (Below w.heap.size w (wr.alloc (.cells #[.int .i32 x, .int .i32 y] 41))) := hB.out.alloc hbs _
      by_cases c1 : nx < x
      · have hE2 : Hid ((O ++ [(nx, x - 1)]) ++ restL (y + 1) (L.drop (k + 1)) = restL 0 L) := by
          rw [Hid, ← hE.out, hdr.out]
          show _ = O ++ ((if nx < x then [(nx, x - 1)] else []) ++ restL (y + 1) (L.drop (k + 1)))
          rw [if_pos c1, List.append_assoc]
        have hcn : Hid _ := cells_new (wr.alloc (.cells #[.int .i32 x, .int .i32 y] 41)) #[.int .i32 nx, .int .i32 (x - 1)] 41
        go_wp2_with (at_builtin; go_must (refine wpList_append_own _ rfl _ _ 22 rfl w.heap.size 41 i0 _ 2 8 Try.underlying22 hi hz0 hz1 hz2 rfl (by decide) _ _ _ rfl (O1.out.alloc _) ⟨_, 0, none⟩ 1 1 [.int .i32 nx, .int .i32 (x - 1)] rfl rfl (by have := hcn.out; simpa using this) (by simp [Value.oneCell']) (by unfold maxLen; omega) (by omega) (by simp; omega) ?_))
        intro v' w2 hown' hgrow _
        have hbb : ∀ p : Addr, p.block = wr.heap.size → w2.cell? p = (wr.alloc (.cells #[.int .i32 x, .int .i32 y] 41)).cell? p := fun p hp => by
          refine World.cell?_of_block ?_
          rw [hgrow.block p.block (by simp; omega) (fun e => by have := (hO.out.lt _ e.symm).2; omega)]
          exact Below.heap_alloc _ _ _ (by simp; omega)
        have z2 : w2.cell? ⟨wr.heap.size, 1, none⟩ = some (.int .i32 y) := (hbb _ rfl).trans x2
        have B3 : Hid (Below w.heap.size w w2) := (B1.out.alloc (by simp; omega) _).grown hgrow (by simp; omega) (fun j hj => (hO.out.lt j hj).1)
        have O3 : Hid (w2.ownsRow w.heap.size 41 2 v' (O ++ [(nx, x - 1)]).length (celS (O ++ [(nx, x - 1)]))) := by rw [Hid, List.length_append, celS_snoc]; exact hown'
        clear hown' hgrow hcn O1 B1 hbb x1 x2 hE hdr
        go_wp2
        refine ⟨⟨k + 1, O ++ [(nx, x - 1)], y + 1, by omega, by simp; omega, by go_num, by go_num, by omega, by omega, hE2.out, O3.out, B3.out⟩, by simp [intOf]; omega⟩
      · have hE2 : Hid (O ++ restL (y + 1) (L.drop (k + 1)) = restL 0 L) := by
          rw [Hid, ← hE.out, hdr.out]
          show _ = O ++ ((if nx < x then [(nx, x - 1)] else []) ++ restL (y + 1) (L.drop (k + 1)))
          rw [if_neg c1, List.nil_append]
        have c1' : decide (nx < x) = false := decide_eq_false c1
        clear c1 hE hdr
        go_wp2
        refine ⟨⟨k + 1, O, y + 1, by omega, by omega, by go_num, by go_num, by omega, by omega, hE2.out, O1.out, B1.out⟩, by simp [intOf]; omega⟩
    · have hkk : k = L.length := by omega
      subst hkk
      have hE1 : Hid (O ++ (if nx ≤ 1114111 then [(nx, 1114111)] else []) = restL 0 L) := by
        have := hE.out
        rw [List.drop_length] at this
        exact this
      clear hE
      by_cases c1 : nx ≤ 1114111
      · have hE2 : Hid (O ++ [(nx, 1114111)] = restL 0 L) := by have := hE1.out; rwa [if_pos c1] at this
        have hcn : Hid _ := cells_new wr #[.int .i32 nx, .int .i32 1114111] 41
        go_wp2_with (at_builtin; go_must (refine wpList_append_own _ rfl _ _ 22 rfl w.heap.size 41 i0 _ 2 8 Try.underlying22 hi hz0 hz1 hz2 rfl (by decide) _ _ _ rfl (hO.out.alloc _) ⟨_, 0, none⟩ 1 1 [.int .i32 nx, .int .i32 1114111] rfl rfl hcn.out (by simp [Value.oneCell']) (by unfold maxLen; omega) (by omega) (by simp; omega) ?_))
        intro v' w2 hown' hgrow _
        have B3 : Hid (Below w.heap.size w w2) := (hB.out.alloc hbs _).grown hgrow (by simp; omega) (fun j hj => (hO.out.lt j hj).1)
        have O3 : Hid (w2.ownsRow w.heap.size 41 2 v' (restL 0 L).length (celS (restL 0 L))) := by rw [Hid, ← hE2.out, List.length_append, celS_snoc]; exact hown'
        clear hown' hgrow hcn hE1 hE2
        go_wp2
        go_ret
        exact ⟨_, rfl, O3.out, B3.out⟩
      · have hE2 : Hid (O = restL 0 L) := by have := hE1.out; rwa [if_neg c1, List.append_nil] at this
        have c1' : decide (nx ≤ 1114111) = false := decide_eq_false c1
        clear c1 hE1
        go_wp2
        go_ret
        exact ⟨_, rfl, by rw [← hE2.out]; exact hO.out, hB.out⟩
theorem limited_any (X : List Sn) (b : Nat) (v : Value) (w : World) (hO : w.ownsRow b 41 2 v X.length (celS X)) (hl : X.length ≤ 100000000) : Calls Try.prog 22 #[v] w fun e w' => ∃ v' X' er, e = .returned (.tuple #[v', .int .i64 er]) ∧ w' = w ∧ w'.ownsRow b 41 2 v' X'.length (celS X') ∧ (X.length ≤ 65536 → X' = X ∧ er = 0) ∧ (65536 < X.length → X' = [] ∧ er = 71) := by
  have HO : Hid (w.ownsRow b 41 2 v X.length (celS X)) := hO
  obtain ⟨a, c, rfl, _, _⟩ := owns_slice hO
  clear hO
  by_cases c1 : 65536 < X.length
  · have h1 : ((X.length : Nat) : Int) > 65536 := by omega
    go_enter Try.func22, Try.ntmps22
    go_wp2
    go_ret2
    exact ⟨_, [], _, rfl, rfl, World.ownsRow_nil _ _ _ _, fun h => by omega, fun _ => ⟨rfl, rfl⟩⟩
  · have h1 : ((X.length : Nat) : Int) ≤ 65536 := by omega
    go_enter Try.func22, Try.ntmps22
    go_wp2
    go_ret2
    exact ⟨_, X, _, rfl, rfl, HO.out, fun _ => ⟨rfl, rfl⟩, fun h => by omega⟩
end Go.Proofs.Ytddoanmhikldiab
