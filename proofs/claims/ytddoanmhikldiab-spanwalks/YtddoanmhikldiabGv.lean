/-
  The contract of given: spans as the document has them, in a list of the call's own. Conditions: the list takes no more bytes than there are.
-/
import Derived.Test.YtddoanmhikldiabIs
import Derived.Deep.RegionLaw
import Derived.BigRegion
namespace Go.Proofs.Ytddoanmhikldiab
open Go.RowKit
theorem step_append_own {P : Program} {ops : Array Oper} {o : Oper} {a : Act} {w : World} {K : Act → World → Prop} {Q : Exit → Act → World → Prop} {E : Prop}
    (hg : o.guard = none) (s x : Operand) (t : TypeId) (hop : o.op = Op.call { callee := Callee.builtin Builtin.append, args := #[s, x], argTypes := #[t, t] })
    (base : Nat) (e : TypeId) (i : TypeInfo) (z : Value) (size bytes : Nat) (h1 : P.underlying t = some (.slice e)) (h2 : P.info? e = some i) (h3 : i.zero = some z) (h4 : i.size = size) (h5 : i.bytes = bytes) (h6 : z.cells.size = size) (h7 : 0 < size)
    (v : Value) (n : Nat) (xs : List Value) (hs : a.eval s = v) (hown : w.ownsRow base e size v n xs)
    (ad : Addr) (m c : Nat) (news : List Value) (hx : a.eval x = .slice (some ad) m c) (hn : news.length = m * size) (hc : ∀ j u, news[j]? = some u → w.cell? (ad.add j) = some u) (h1c : ∀ u ∈ news, u.oneCell' = true)
    (b1 : n + m ≤ maxLen) (b2 : (n + m) * bytes ≤ 140737488355328) (hbase : base ≤ w.heap.size)
    (hK : ∀ v' w', w'.ownsRow base e size v' (n + m) (xs ++ news) → w.grownBy w' v.ownBlock → K (a.put o.dst v') w') :
    if Region.wanted o (yielded ops a.tmps) = true then Oper.wp P o a w K Q else E := by
  have hw : Region.wanted o (yielded ops a.tmps) = true := by simp [Region.wanted, hg]
  rw [if_pos hw]
  exact wp_append_own w s x t hop base e i z size bytes h1 h2 h3 h4 h5 h6 h7 v n xs hs hown ad m c news hx hn hc h1c b1 b2 hbase fun v' w' a b _ => hK v' w' a b
theorem owns_below {W W' : World} {b e size n : Nat} {v : Value} {xs : List Value} (h : W.ownsRow b e size v n xs) (hb : Below W.heap.size W W') : W'.ownsRow b e size v n xs := by
  obtain ⟨h1, h2 | ⟨g, cap, cur, rfl, h3, h4, h5⟩⟩ := h
  · exact ⟨h1, .inl h2⟩
  · exact ⟨h1, .inr ⟨g, cap, cur, rfl, h3, (hb.block g (Array.getElem?_eq_some_iff.1 h4).1).trans h4, h5⟩⟩
theorem info58 : (Try.prog.info? 44).map (fun i => (i.zero, i.size, i.bytes)) = some (some (.agg #[.int .i32 0, .int .i32 0]), 2, 8) := by kernel_rfl
theorem info57 : (Try.prog.info? 41).map (fun i => (i.zero, i.size, i.bytes)) = some (some (.agg #[.int .i32 0, .int .i32 0]), 2, 8) := by kernel_rfl
/-- Spans, as cells. -/
def celS (L : List Sn) : List Value := L.flatMap fun s => [.int .i32 s.1, .int .i32 s.2]
theorem celS_snoc (L : List Sn) (s : Sn) : celS (L ++ [s]) = celS L ++ [.int .i32 s.1, .int .i32 s.2] := by simp [celS]
theorem celS_len (L : List Sn) : (celS L).length = L.length * 2 := by
  induction L with
  | nil => rfl
  | cons s L ih => simp [celS] at ih ⊢; omega
theorem own_none (W : World) (b t : Nat) (hb : b ≤ W.heap.size) : (W.alloc (.cells #[] t)).ownsRow b t 2 (.slice (some ⟨W.heap.size, 0, none⟩) 0 0) 0 [] :=
  ⟨rfl, .inr ⟨W.heap.size, 0, #[], rfl, hb, heap_alloc_last _ _, Nat.le_refl _, Nat.zero_le _, by simp, rfl⟩⟩
theorem cells_new (w : World) (xs : Array Value) (t : TypeId) : ∀ j u, xs.toList[j]? = some u → (w.alloc (.cells xs t)).cell? ((⟨w.heap.size, 0, none⟩ : Addr).add j) = some u := by
  intro j u hj
  have h := heap_alloc_last w (.cells xs t)
  simp only [Array.getElem?_toList] at hj
  obtain ⟨W, hW⟩ : ∃ W, w.alloc (.cells xs t) = W := ⟨_, rfl⟩
  rw [hW] at h ⊢
  cases j with
  | zero => simp [World.cell?, Addr.add, h, hj]
  | succ j => simp [World.cell?, Addr.add, h, hj]
set_option maxRecDepth 100000 in
set_option maxHeartbeats 1000000 in
theorem given_any (L : List Sn) (v : Value) (w : World) (hr : RdS w v L) (hl : L.length ≤ 17592186044416) : Calls Try.prog 5 #[v] w fun e w' => ∃ v', e = .returned v' ∧ w'.ownsRow w.heap.size 44 2 v' L.length (celS L) ∧ Below w.heap.size w w' := by
  obtain ⟨a, c, rfl, hlc, hc⟩ := hr
  obtain ⟨i0, hi, hz0, hz1, hz2⟩ := info_parts info58
  have HC : Hid (0 < L.length → ∃ g off, a = some ⟨g, off, none⟩ ∧ ∀ j, j < L.length → w.cell? ⟨g, off + j * 2, none⟩ = some (.int .i32 (L.getD j (0, 0)).1) ∧ w.cell? ⟨g, off + j * 2 + 1, none⟩ = some (.int .i32 (L.getD j (0, 0)).2)) := hc
  clear hc
  go_enter Try.func5, Try.ntmps5
  go_wp2_with fail
  go_loopw [3, 4] (fun x y wr => ∃ k : Nat, k ≤ L.length ∧ y = .int .i64 (k : Nat) ∧ Hid (wr.ownsRow w.heap.size 44 2 x k (celS (L.take k))) ∧ Hid (Below w.heap.size w wr)) (fun _ y _ => (L.length - (intOf y).toNat : Nat))
  case atStart => exact ⟨0, Nat.zero_le _, rfl, own_none w _ 44 (Nat.le_refl _), (Below.refl _ _).alloc (Nat.le_refl _) _⟩
  case round =>
    obtain ⟨k, hk, rfl, hO, hB⟩ := hrel
    by_cases hkl : k < L.length
    · obtain ⟨g, off, rfl, hd⟩ := HC.out (by omega)
      obtain ⟨d1, d2⟩ := hd k hkl
      have kl : (k : Int) < (L.length : Int) := by omega
      have g1 := World.block_lt_of_cell? w _ d1
      have e1 := (hB.out.cell (p := ⟨g, off + k * 2, none⟩) (by simpa using g1)).trans d1
      have e2 := (hB.out.cell (p := ⟨g, off + k * 2 + 1, none⟩) (by simpa using g1)).trans d2
      clear d1 d2 hd g1 HC
      have hsn : Hid (L.take (k + 1) = L.take k ++ [L.getD k (0, 0)]) := take_snoc L k hkl
      generalize L.getD k (0, 0) = s at *
      obtain ⟨x, y⟩ := s
      have hbsz := hB.out.size
      go_wp2_with fail
      have hcn : Hid _ := cells_new wr #[.int .i32 x, .int .i32 y] 44
      have hOd : Hid (((wr.alloc (.cells #[.int .i32 x, .int .i32 y] 44)).drew).ownsRow w.heap.size 44 2 u3 k (celS (L.take k))) := owns_below hO.out (((Below.refl _ _).alloc (Nat.le_refl _) _).drew)
      have hBd : Hid (Below w.heap.size w ((wr.alloc (.cells #[.int .i32 x, .int .i32 y] 44)).drew)) := (hB.out.alloc hbsz _).drew
      go_region_law (refine step_append_own rfl (.tmp 12) (.tmp 24) 23 rfl w.heap.size 44 i0 _ 2 8 Try.underlying23 hi hz0 hz1 hz2 rfl (by decide) u3 k (celS (L.take k)) rfl hOd.out ⟨wr.heap.size, 0, none⟩ 1 1 [.int .i32 x, .int .i32 y] rfl rfl hcn.out (by simp [Value.oneCell']) (by unfold maxLen; omega) (by omega) hBd.out.size fun v' w' hown' hgrow => ?_)
      all_goals (
        have O2 : Hid (w'.ownsRow w.heap.size 44 2 v' (k + 1) (celS (L.take (k + 1)))) := by rw [Hid, hsn.out, celS_snoc]; exact hown'
        have B2 : Hid (Below w.heap.size w w') := hBd.out.grown hgrow hBd.out.size (fun j hj => (hOd.out.lt j hj).1)
        clear hown' hgrow hOd hBd hcn hO hB
        try go_wp2
        refine ⟨⟨k + 1, by omega, by go_num, O2.out, B2.out⟩, by simp [intOf]; omega⟩)
    · have hkk : k = L.length := by omega
      subst hkk
      have O2 : Hid (wr.ownsRow w.heap.size 44 2 u3 L.length (celS L)) := by
        have := hO.out
        rwa [List.take_length] at this
      go_wp2
      go_ret
      exact ⟨_, rfl, O2.out, hB.out⟩
end Go.Proofs.Ytddoanmhikldiab
