/-
  Two decoders, each with the list of what it told: the state of both, and how Feed, End and append move it on. Conditions: those of Feed.
-/
import Derived.Test.YtabofadjnbpjkabDoorFf
import Derived.Laws.AppendOwnNone
import Derived.OpenShut
namespace Go.Proofs.YtabofadjnbpjkabDoor
open Go.RowKit Go.Lib Go.Shelf
/-- Numbers as cells. -/
def intsC (zs : List Int) : List Value := zs.map fun z => Value.int .i32 z
theorem intsC_len (zs : List Int) : (intsC zs).length = zs.length := by unfold intsC; rw [List.length_map]
theorem intsC_app (xs ys : List Int) : intsC xs ++ intsC ys = intsC (xs ++ ys) := by unfold intsC; rw [List.map_append]
/-- A slice that reads as these numbers, and may be nil. -/
def RdsA (w : World) (v : Value) (zs : List Int) : Prop :=
  (v = .slice none 0 0 ∧ zs = []) ∨ ∃ ad c, v = .slice (some ad) zs.length c ∧ ∀ j, j < zs.length → w.cell? (ad.add j) = some (.int .i32 (zs.getD j 0))
theorem RdsA.rds {w : World} {v : Value} {zs : List Int} (h : RdsA w v zs) : Rds .i32 w v zs := by
  obtain ⟨rfl, rfl⟩ | ⟨ad, c, rfl, h⟩ := h
  · exact ⟨_, _, rfl, fun h => by simp at h⟩
  · refine ⟨_, c, rfl, fun hp => ?_⟩
    obtain ⟨b, off, rfl, hc⟩ := ints_at h hp
    exact ⟨b, off, rfl, hc⟩
theorem RdsA.below {w w' : World} {v : Value} {zs : List Int} (h : RdsA w v zs) (hb : Below w.heap.size w w') : RdsA w' v zs := by
  obtain ⟨rfl, rfl⟩ | ⟨ad, c, rfl, h⟩ := h
  · exact .inl ⟨rfl, rfl⟩
  · refine .inr ⟨ad, c, rfl, fun j hj => ?_⟩
    have := World.block_lt_of_cell? w _ (h j hj)
    exact (hb.cell this).trans (h j hj)
theorem RdsA.of_owns {w : World} {b : Nat} {v : Value} {zs : List Int} (h : w.ownsRow b 21 1 v zs.length (intsC zs)) : RdsA w v zs := by
  obtain ⟨h1, ⟨rfl, h0⟩ | ⟨g, cap, cur, rfl, hr⟩⟩ := h
  · exact .inl ⟨rfl, List.length_eq_zero_iff.1 h0⟩
  · refine .inr ⟨⟨g, 0, none⟩, cap, rfl, fun j hj => ?_⟩
    have hadd : (⟨g, 0, none⟩ : Addr).add j = ⟨g, j, none⟩ := by unfold Addr.add; split <;> simp_all
    rw [hadd]
    exact owns_cell (n := zs.length) (v := .slice (some ⟨g, 0, none⟩) zs.length cap) ⟨h1, .inr ⟨g, cap, cur, rfl, hr⟩⟩ rfl j _ (by unfold intsC; simp [List.getD, List.getElem?_eq_getElem hj])
/-- 'append' of numbers onto a list of the call's own. -/
theorem wpList_append_more {w : World} {ops : Array Oper} {rest : List Oper} {o : Oper} {a : Act} {Q : Exit → Act → World → Prop} (hgd : o.guard = none) (s x : Operand)
    (ho : o.op = .call { callee := .builtin .append, args := #[s, x], argTypes := #[23, 23] }) (base : Nat)
    (v0 v : Value) (xs zs : List Int) (hs : a.eval s = v0) (hown : w.ownsRow base 21 1 v0 xs.length (intsC xs)) (hx : a.eval x = v) (hr : RdsA w v zs) (hlb : (xs.length + zs.length) * 4 ≤ 140737488355328) (hb : base ≤ w.heap.size)
    (K : ∀ v' w', w'.ownsRow base 21 1 v' (xs ++ zs).length (intsC (xs ++ zs)) → w.grownBy w' v0.ownBlock → (v'.ownBlock = v0.ownBlock ∨ v'.ownBlock = some w.heap.size) → wpList Tryd.prog ops Q rest (a.put o.dst v') w') : wpList Tryd.prog ops Q (o :: rest) a w := by
  obtain ⟨i, hi, hz, h1, h2⟩ := info_parts info21
  obtain ⟨rfl, rfl⟩ | ⟨ad, c, rfl, h⟩ := hr
  · refine wpList_append_own_none hgd s x 23 ho base 21 i 1 Tryd.underlying23 hi v0 xs.length (intsC xs) hs hown hx (K _ _ ?_ (grown_below (Below.refl _ _)) (.inl rfl))
    rw [List.append_nil]; exact hown
  · refine wpList_append_own_at _ hgd s x 23 ho base 21 i (.int .i32 0) 1 4 Tryd.underlying23 hi hz h1 h2 rfl (by decide) v0 xs.length (intsC xs) hs hown ad zs.length c (intsC zs) hx (by rw [intsC_len]; omega) (fun j u hj => ?_) (by intro u hu; unfold intsC at hu; obtain ⟨z, _, rfl⟩ := List.mem_map.1 hu; rfl) (by unfold maxLen; omega) hlb hb (fun v' w' ho' hg' _ hat => K v' w' ?_ hg' hat)
    · have hj' : j < zs.length := by have := (List.getElem?_eq_some_iff.1 hj).1; rwa [intsC_len] at this
      rw [h j hj', ← hj]
      unfold intsC
      simp [List.getD, List.getElem?_eq_getElem hj']
    · rw [intsC_app] at ho'
      rw [List.length_append]
      exact ho'
/-- Two lists that do not lie in one block. -/
def Apart (x y : Value) : Prop := ∀ g, x.ownBlock = some g → y.ownBlock ≠ some g
/-- Two decoders in blocks b1 and b2 hold h1 and h2, and L1 and L2 is what they told, in x and y. -/
structure Two (w : World) (n b1 b2 : Nat) (L1 L2 : List Int) (h1 h2 : ByteArray) (x y : Value) (W : World) : Prop where
  rx : W.ownsRow n 21 1 x L1.length (intsC L1)
  ry : W.ownsRow n 21 1 y L2.length (intsC L2)
  ap : Apart x y
  dx : DecAt W b1 h1
  dy : DecAt W b2 h2
  bl : Below n w W
  ne : b1 ≠ b2
  n1 : n ≤ b1
  n2 : n ≤ b2
theorem Two.swap {w : World} {n b1 b2 : Nat} {L1 L2 : List Int} {h1 h2 : ByteArray} {x y : Value} {W : World} (t : Two w n b1 b2 L1 L2 h1 h2 x y W) : Two w n b2 b1 L2 L1 h2 h1 y x W :=
  ⟨t.ry, t.rx, fun g hg hx => t.ap g hx hg, t.dy, t.dx, t.bl, Ne.symm t.ne, t.n2, t.n1⟩
theorem row_not {W : World} {n : Nat} {x : Value} {L : List Int} {b : Nat} {h : ByteArray} (hr : W.ownsRow n 21 1 x L.length (intsC L)) (d : DecAt W b h) : x.ownBlock ≠ some b := fun q => by
  obtain ⟨_, ⟨rfl, _⟩ | ⟨g, cap, cur, rfl, _, hg, _⟩⟩ := hr
  · cases q
  · have : g = b := by simpa [Value.ownBlock] using q
    subst this
    rw [show W.heap[g]? = _ from d] at hg
    cases hg
theorem Two.grown {w : World} {n b1 b2 : Nat} {L1 L2 : List Int} {h1 h2 : ByteArray} {x y : Value} {W W' : World} (t : Two w n b1 b2 L1 L2 h1 h2 x y W) (hn : n ≤ W.heap.size) (g : W.grownBy W' (some b1)) {h' : ByteArray} (d : DecAt W' b1 h') : Two w n b1 b2 L1 L2 h' h2 x y W' := by
  have k1 := row_not t.rx t.dx
  have k2 := row_not t.ry t.dx
  exact ⟨t.rx.kept g (.inr k1), t.ry.kept g (.inr k2), t.ap, d, (g.block b2 t.dy.lt (fun q => t.ne (by cases q; rfl))).trans t.dy, t.bl.grown g hn (fun j hj => by cases hj; exact t.n1), t.ne, t.n1, t.n2⟩
theorem Two.below {w : World} {n b1 b2 : Nat} {L1 L2 : List Int} {h1 h2 : ByteArray} {x y : Value} {W W' : World} (t : Two w n b1 b2 L1 L2 h1 h2 x y W) (hn : n ≤ W.heap.size) (b : Below W.heap.size W W') : Two w n b1 b2 L1 L2 h1 h2 x y W' :=
  ⟨owns_below t.rx b, owns_below t.ry b, t.ap, t.dx.below b, t.dy.below b, t.bl.trans (b.mono hn), t.ne, t.n1, t.n2⟩
/-- More in the first list. -/
theorem Two.more {w : World} {n b1 b2 : Nat} {L1 L2 M : List Int} {h1 h2 : ByteArray} {x y x' : Value} {W W' : World} (t : Two w n b1 b2 L1 L2 h1 h2 x y W) (hn : n ≤ W.heap.size) (ho : W'.ownsRow n 21 1 x' (L1 ++ M).length (intsC (L1 ++ M))) (g : W.grownBy W' x.ownBlock) (hat : x'.ownBlock = x.ownBlock ∨ x'.ownBlock = some W.heap.size) : Two w n b1 b2 (L1 ++ M) L2 h1 h2 x' y W' := by
  refine ⟨ho, t.ry.kept g ?_, ?_, (g.block b1 t.dx.lt (fun q => row_not t.rx t.dx q.symm)).trans t.dx, (g.block b2 t.dy.lt (fun q => row_not t.rx t.dy q.symm)).trans t.dy, t.bl.grown g hn (fun j hj => (t.rx.lt j hj).1), t.ne, t.n1, t.n2⟩
  · cases hy : y.ownBlock with
    | none => exact .inl rfl
    | some k => exact .inr (fun q => t.ap k q.symm hy)
  · intro k hk
    rcases hat with e | e
    · exact t.ap k (by rw [← e]; exact hk)
    · intro q
      have := (t.ry.lt k q).2
      rw [e] at hk
      cases hk
      omega
/-- Feed of the first. -/
theorem Two.feed {w : World} {n b1 b2 : Nat} {L1 L2 : List Int} {h1 h2 : ByteArray} {x y : Value} {W : World} (t : Two w n b1 b2 L1 L2 h1 h2 x y W) (hw : n = w.heap.size) (hT : Utf8Tabs 0 1 w) (hg : 2 ≤ n) (p : ByteArray) (hz : (h1 ++ p).size ≤ 35184372088000) :
    Calls Tryd.prog 18 #[.pointer (some ⟨b1, 0, none⟩), .string p] W fun e W' => ∃ v, e = .returned v ∧ RdsA W' v (sn (h1 ++ p)) ∧ Two w n b1 b2 L1 L2 (hd (h1 ++ p)) h2 x y W' := by
  have hs : n ≤ W.heap.size := by have := t.bl.size; omega
  have := t.n1
  refine (feed_any b1 h1 p W hz t.dx (tabs_below hT (by omega) (by rw [← hw]; exact t.bl)) (by omega) (by omega)).mono ?_
  rintro e W' ⟨v, rfl, ho, d, g⟩
  exact ⟨v, rfl, RdsA.of_owns ho, t.grown hs g d⟩
theorem endA_any (b : Nat) (h : ByteArray) (w : World) (d : DecAt w b h) : Calls Tryd.prog 19 #[.pointer (some ⟨b, 0, none⟩)] w fun e w' => ∃ v, e = .returned v ∧ RdsA w' v (endL h) ∧ DecAt w' b ⟨#[]⟩ ∧ w.grownBy w' (some b) := by
  refine (end_any b h w d).mono ?_
  rintro e w' ⟨v, rfl, hr, h2, h3⟩
  refine ⟨v, rfl, ?_, h2, h3⟩
  obtain ⟨rfl, e⟩ | ⟨g, rfl, hc, e⟩ := hr
  · rw [e]; exact .inl ⟨rfl, rfl⟩
  · rw [e]
    refine .inr ⟨⟨g, 0, none⟩, 1, rfl, fun j hj => ?_⟩
    have : j = 0 := by simp at hj; omega
    subst this
    exact hc
/-- End of the first. -/
theorem Two.ended {w : World} {n b1 b2 : Nat} {L1 L2 : List Int} {h1 h2 : ByteArray} {x y : Value} {W : World} (t : Two w n b1 b2 L1 L2 h1 h2 x y W) (hw : n = w.heap.size) :
    Calls Tryd.prog 19 #[.pointer (some ⟨b1, 0, none⟩)] W fun e W' => ∃ v, e = .returned v ∧ RdsA W' v (endL h1) ∧ Two w n b1 b2 L1 L2 ⟨#[]⟩ h2 x y W' := by
  have hs : n ≤ W.heap.size := by have := t.bl.size; omega
  refine (endA_any b1 h1 W t.dx).mono ?_
  rintro e W' ⟨v, rfl, hr, d, g⟩
  exact ⟨v, rfl, hr, t.grown hs g d⟩
theorem rest_end (t : ByteArray) : sn t ++ endL (hd t) = nums t := by
  rw [out_all]
  congr 1
  unfold endL rest
  have := hd_size t
  have := ct_le t
  by_cases c : ct t < t.size
  · rw [if_pos c, if_neg (by omega)]
  · rw [if_neg c, if_pos (by omega)]
end Go.Proofs.YtabofadjnbpjkabDoor
