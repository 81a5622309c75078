/-
  The contracts of plain, of the document's Check, and of rows at the same rows. Conditions: the rows' numbers fit; the list takes no more bytes than there are.
-/
import Derived.Test.YtookbgmolggohaaFa
import Derived.Deep.DeepAppendWide
namespace Go.Proofs.Ytookbgmolggohaa
open Go.RowKit
theorem info33 : (Try.prog.info? 33).map (fun i => (i.zero, i.size, i.bytes)) = some (some (.agg #[.int .i64 0, .int .i64 0, .int .i64 0]), 3, 24) := by kernel_rfl
/-- Rows, as cells. -/
def cel3 (k : IntKind) (L : List Rw) : List Value := L.flatMap fun s => [.int k s.1, .int k s.2.1, .int .i64 s.2.2]
theorem cel3_snoc (k : IntKind) (L : List Rw) (s : Rw) : cel3 k (L ++ [s]) = cel3 k L ++ [.int k s.1, .int k s.2.1, .int .i64 s.2.2] := by simp [cel3]
theorem cel3_len (k : IntKind) (L : List Rw) : (cel3 k L).length = L.length * 3 := by
  induction L with
  | nil => rfl
  | cons s L ih => simp [cel3] at ih ⊢; omega
theorem cel3_get (k : IntKind) (L : List Rw) (j : Nat) (h : j < L.length) : (cel3 k L)[j * 3]? = some (.int k (L.getD j (0, 0, 0)).1) ∧ (cel3 k L)[j * 3 + 1]? = some (.int k (L.getD j (0, 0, 0)).2.1) ∧ (cel3 k L)[j * 3 + 2]? = some (.int .i64 (L.getD j (0, 0, 0)).2.2) := by
  induction L generalizing j with
  | nil => simp at h
  | cons s L ih =>
    have e : cel3 k (s :: L) = .int k s.1 :: .int k s.2.1 :: .int .i64 s.2.2 :: cel3 k L := rfl
    rw [e]
    cases j with
    | zero => exact ⟨rfl, rfl, rfl⟩
    | succ j =>
      have := ih j (by simpa using h)
      rw [show (j + 1) * 3 = j * 3 + 1 + 1 + 1 by omega]
      simpa using this
theorem Rd3.of_owns {k : IntKind} {w : World} {b e : Nat} {v : Value} {L : List Rw} (h : w.ownsRow b e 3 v L.length (cel3 k L)) : Rd3 k w v L := by
  obtain ⟨a, c, rfl, hc, hn⟩ := owns_slice h
  refine ⟨a, c, rfl, hc, fun hp => ?_⟩
  obtain ⟨g, rfl⟩ := hn hp
  refine ⟨g, 0, rfl, fun j hj => ?_⟩
  obtain ⟨h1, h2, h3⟩ := cel3_get k L j hj
  rw [Nat.zero_add]
  exact ⟨(owns_cell h rfl _ _ h1).1, (owns_cell h rfl _ _ h2).1, (owns_cell h rfl _ _ h3).1⟩
theorem cells_new (w : World) (xs : Array Value) (t : TypeId) : ∀ j u, xs.toList[j]? = some u → (w.alloc (.cells xs t)).cell? ((⟨w.heap.size, 0, none⟩ : Addr).add j) = some u := by
  intro j u hj
  have h := heap_alloc_last w (.cells xs t)
  simp only [Array.getElem?_toList] at hj
  obtain ⟨W, hW⟩ : ∃ W, w.alloc (.cells xs t) = W := ⟨_, rfl⟩
  rw [hW] at h ⊢
  cases j with
  | zero => simp [World.cell?, Addr.add, h, hj]
  | succ j => simp [World.cell?, Addr.add, h, hj]
set_option maxRecDepth 100000 in
set_option maxHeartbeats 2000000 in
theorem plain_any (L : List Rw) (v : Value) (w : World) (hr : Rd3 .i32 w v L) (hf : fit3 L) (hl : L.length ≤ 8796093022208) : Calls Try.prog 15 #[v] w fun e w' => ∃ v', e = .returned v' ∧ w'.ownsRow w.heap.size 33 3 v' L.length (cel3 .i64 L) ∧ Below w.heap.size w w' := by
  obtain ⟨a, c, rfl, hlc, hc⟩ := hr
  obtain ⟨i0, hi, hz0, hz1, hz2⟩ := info_parts info33
  have HC : Hid _ := hc
  have HF : Hid (fit3 L) := hf
  clear hc hf
  go_enter Try.func15, Try.ntmps15
  go_wp2_with fail
  go_loopw [3, 8] (fun x y wr => ∃ k : Nat, k ≤ L.length ∧ y = .int .i64 (k : Nat) ∧ Hid (wr.ownsRow w.heap.size 33 3 x k (cel3 .i64 (L.take k))) ∧ Hid (Below w.heap.size w wr)) (fun _ y _ => (L.length - (intOf y).toNat : Nat))
  case atStart => exact ⟨0, Nat.zero_le _, rfl, ⟨rfl, .inl ⟨rfl, rfl⟩⟩, Below.refl _ _⟩
  case round =>
    obtain ⟨k, hk, rfl, hO, hB⟩ := hrel
    by_cases hkl : k < L.length
    · obtain ⟨g, off, rfl, hd⟩ := HC.out (by omega)
      obtain ⟨d1, d2, d3⟩ := hd k hkl
      have kl : (k : Int) < (L.length : Int) := by omega
      have g1 := World.block_lt_of_cell? w _ d1
      have e1 := (hB.out.cell (p := ⟨g, off + k * 3, none⟩) (by simpa using g1)).trans d1
      have e2 := (hB.out.cell (p := ⟨g, off + k * 3 + 1, none⟩) (by simpa using g1)).trans d2
      have e3 := (hB.out.cell (p := ⟨g, off + k * 3 + 2, none⟩) (by simpa using g1)).trans d3
      obtain ⟨f1, f2, f3, f4, f5, f6⟩ := fit_get HF.out hkl
      have hsn : Hid (L.take (k + 1) = L.take k ++ [L.getD k (0, 0, 0)]) := take_snoc3 L k hkl
      clear d1 d2 d3 hd g1 HC HF
      generalize L.getD k (0, 0, 0) = s at *
      obtain ⟨x, y, n⟩ := s
      simp only at e1 e2 e3 f1 f2 f3 f4 f5 f6
      have hbsz := hB.out.size
      obtain ⟨q1, q2, q3⟩ := box3 wr (.int .i32 x) (.int .i32 y) (.int .i64 n) 62
      have B1 : Hid (Below w.heap.size w (wr.alloc (.cells #[.int .i32 x, .int .i32 y, .int .i64 n] 62))) := hB.out.alloc hbsz _
      have O1 : Hid ((wr.alloc (.cells #[.int .i32 x, .int .i32 y, .int .i64 n] 62)).ownsRow w.heap.size 33 3 u3 k (cel3 .i64 (L.take k))) := hO.out.alloc _
      have hcn : Hid _ := cells_new (wr.alloc (.cells #[.int .i32 x, .int .i32 y, .int .i64 n] 62)) #[.int .i64 x, .int .i64 y, .int .i64 n] 33
      go_wp2_with (at_builtin; go_must (refine wpList_append_own_wide _ rfl _ _ 25 rfl w.heap.size 33 i0 _ 3 24 Try.underlying25 hi hz0 hz1 hz2 rfl (by decide) _ _ _ rfl (O1.out.alloc _) ⟨_, 0, none⟩ 1 1 [.int .i64 x, .int .i64 y, .int .i64 n] rfl rfl ?h1 ?h2 ?h3 ?h4 ?h5 ?h6))
      case h2 => simp [Value.oneCell']
      case h3 => unfold maxLen; omega
      case h4 => omega
      case h5 => first | omega | (simp; omega)
      case h6 =>
        intro v' w' hown' hgrow _
        have O2 : Hid (w'.ownsRow w.heap.size 33 3 v' (k + 1) (cel3 .i64 (L.take (k + 1)))) := by rw [Hid, hsn.out, cel3_snoc]; exact hown'
        have B2 : Hid (Below w.heap.size w w') := (B1.out.alloc (by simp; omega) _).grown hgrow (by simp; omega) (fun j hj => (O1.out.lt j hj).1)
        clear hown' hgrow O1 B1 hcn hO hB q1 q2 q3
        go_wp2
        refine ⟨⟨k + 1, by omega, by go_num, O2.out, B2.out⟩, by simp [intOf]; omega⟩
    · have hkk : k = L.length := by omega
      subst hkk
      have O2 : Hid (wr.ownsRow w.heap.size 33 3 u3 L.length (cel3 .i64 L)) := by
        have := hO.out
        rwa [List.take_length] at this
      go_wp2
      go_ret
      exact ⟨_, rfl, O2.out, hB.out⟩
set_option maxRecDepth 100000 in
set_option maxHeartbeats 2000000 in
theorem rows_same (L : List Rw) (v v' : Value) (w : World) (hr : Rd3 .i32 w v L) (hr' : Rd3 .i64 w v' L) (hf : fit3 L) (hl : L.length ≤ 8796093022208) : Calls Try.prog 17 #[v, v'] w fun e w' => e = .returned (.bool true) ∧ Below w.heap.size w w' := by
  obtain ⟨a, c, rfl, hlc, hc⟩ := hr
  obtain ⟨a', c', rfl, hlc', hc'⟩ := hr'
  have HC : Hid _ := hc
  have HC' : Hid _ := hc'
  have HF : Hid (fit3 L) := hf
  clear hc hf hc'
  go_enter Try.func17, Try.ntmps17
  go_wp2_with fail
  go_loopw [13] (fun y wr => ∃ k : Nat, k ≤ L.length ∧ y = .int .i64 (k : Nat) ∧ Hid (Below w.heap.size w wr)) (fun y _ => (L.length - (intOf y).toNat : Nat))
  case atStart => exact ⟨0, Nat.zero_le _, rfl, Below.refl _ _⟩
  case round =>
    obtain ⟨k, hk, rfl, hB⟩ := hrel
    by_cases hkl : k < L.length
    · obtain ⟨g, off, rfl, hd⟩ := HC.out (by omega)
      obtain ⟨d1, d2, d3⟩ := hd k hkl
      obtain ⟨g', off', rfl, hd'⟩ := HC'.out (by omega)
      obtain ⟨d1', d2', d3'⟩ := hd' k hkl
      have kl : (k : Int) < (L.length : Int) := by omega
      have g1 := World.block_lt_of_cell? w _ d1
      have g1' := World.block_lt_of_cell? w _ d1'
      have e1 := (hB.out.cell (p := ⟨g, off + k * 3, none⟩) (by simpa using g1)).trans d1
      have e2 := (hB.out.cell (p := ⟨g, off + k * 3 + 1, none⟩) (by simpa using g1)).trans d2
      have e3 := (hB.out.cell (p := ⟨g, off + k * 3 + 2, none⟩) (by simpa using g1)).trans d3
      have e1' := (hB.out.cell (p := ⟨g', off' + k * 3, none⟩) (by simpa using g1')).trans d1'
      have e2' := (hB.out.cell (p := ⟨g', off' + k * 3 + 1, none⟩) (by simpa using g1')).trans d2'
      have e3' := (hB.out.cell (p := ⟨g', off' + k * 3 + 2, none⟩) (by simpa using g1')).trans d3'
      obtain ⟨f1, f2, f3, f4, f5, f6⟩ := fit_get HF.out hkl
      clear d1 d2 d3 hd g1 HC HF d1' d2' d3' hd' g1' HC'
      generalize L.getD k (0, 0, 0) = s at *
      obtain ⟨x, y, n⟩ := s
      simp only at e1 e2 e3 e1' e2' e3' f1 f2 f3 f4 f5 f6
      have B2 : ∀ n, Hid (Below w.heap.size w (wr.drewN n)) := fun n => below_drew n hB.out
      go_wp2_with fail
      go_quiet (fail)
      go_wp2
      refine ⟨⟨k + 1, by omega, by go_num, B2 _⟩, by simp [intOf]; omega⟩
    · have hkk : k = L.length := by omega
      subst hkk
      go_wp2
      go_ret
      exact ⟨rfl, hB.out⟩
end Go.Proofs.Ytookbgmolggohaa
