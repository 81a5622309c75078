/-
  The law PunyMemory.
-/
import Derived.Test.YtahmeejcgddlhaaRl
import Derived.Maps.AppendAt
import Derived.Deep.DeepMust
namespace Go.Proofs.Ytahmeejcgddlhaa
open Go.RowKit
/-- A list that reads so, apart from a row. -/
def Apt (w : World) (va vb : Value) (zs : List Int) : Prop := (∀ w', Rds .i32 w' vb zs) ∨ ∃ gb ob, w.heap[gb]? = some ob ∧ va.ownBlock ≠ some gb ∧ ∀ w' : World, w'.heap[gb]? = some ob → Rds .i32 w' vb zs
theorem Apt.rds {w : World} {va vb : Value} {zs : List Int} (h : Apt w va vb zs) : Rds .i32 w vb zs := by
  rcases h with h | ⟨gb, ob, h1, _, h3⟩
  · exact h w
  · exact h3 w h1
theorem Apt.grown {w w' : World} {va va' vb : Value} {zs : List Int} (h : Apt w va vb zs) (hg : w.grownBy w' va.ownBlock) (hl : va'.ownBlock = va.ownBlock ∨ ∃ k, w.heap.size ≤ k ∧ va'.ownBlock = some k) : Apt w' va' vb zs := by
  rcases h with h | ⟨gb, ob, h1, h2, h3⟩
  · exact .inl h
  · have hb := (Array.getElem?_eq_some_iff.1 h1).1
    refine .inr ⟨gb, ob, (hg.block gb hb (Ne.symm h2)).trans h1, ?_, h3⟩
    rcases hl with e | ⟨k, hk, e⟩
    · rw [e]; exact h2
    · rw [e]; intro q; cases q; omega
theorem Apt.set {w : World} {g cap n k : Nat} {vb x : Value} {zs : List Int} (h : Apt w (.slice (some ⟨g, 0, none⟩) n cap) vb zs) : Apt (w.setCell ⟨g, k, none⟩ x) (.slice (some ⟨g, 0, none⟩) n cap) vb zs := by
  rcases h with h | ⟨gb, ob, h1, h2, h3⟩
  · exact .inl h
  · refine .inr ⟨gb, ob, ?_, h2, h3⟩
    have hne : g ≠ gb := by intro e; subst e; exact h2 rfl
    simp [World.setCell, Array.getElem?_modify, hne, h1]
theorem Apt.of_rw {b : Nat} {w : World} {va vb : Value} {zs : List Int} (h : Rw .i32 21 b w vb zs) (ha : ∀ g, va.ownBlock = some g → g < b) : Apt w va vb zs := by
  obtain ⟨h1, ⟨rfl, h0⟩ | ⟨g, cap, cur, rfl, h3, h4, h5⟩⟩ := h
  · left
    intro w'
    have : zs = [] := List.eq_nil_of_length_eq_zero h0
    subst this
    exact ⟨none, 0, rfl, fun h => by simp at h⟩
  · right
    refine ⟨g, _, h4, fun q => by have := ha g q; omega, fun w' hw => ?_⟩
    exact Rw.rds (kd := .i32) (e := 21) (b := b) ⟨h1, .inr ⟨g, cap, cur, rfl, h3, hw, h5⟩⟩
/-- A place of a row is written on. -/
theorem Rw.put {kd : IntKind} {e b : Nat} {w : World} {v : Value} {L : List Int} (h : Rw kd e b w v L) (j : Nat) (hj : j < L.length) : ∃ g cap, v = .slice (some ⟨g, 0, none⟩) L.length cap ∧ b ≤ g ∧ w.cell? ⟨g, j, none⟩ = some (.int kd (L.getD j 0)) ∧ w.frozen? ⟨g, j, none⟩ = false ∧ ∀ x, Rw kd e b (w.setCell ⟨g, j, none⟩ (.int kd x)) v (L.set j x) := by
  obtain ⟨g, cap, hv, hb, hC⟩ := h.celc (by omega)
  refine ⟨g, cap, hv, hb, (hC.at j hj).1, (hC.at j hj).2, fun x => ?_⟩
  have h2 := hC.set j x
  have h3 : CelC kd e (w.setCell ⟨g, j, none⟩ (.int kd x)) g cap (L.set j x).length (fun y => (L.set j x).getD y 0) := by
    rw [List.length_set]
    refine h2.congr fun y hy => ?_
    by_cases c : y = j
    · subst c; rw [if_pos rfl]; simp [List.getD_eq_getElem?_getD, hj]
    · rw [if_neg c]; simp [List.getD_eq_getElem?_getD, List.getElem?_set_ne (Ne.symm c)]
  have h4 := h3.owns b hb
  rw [List.length_set] at h4
  rw [hv]
  exact h4
theorem Rw.own_lt {kd : IntKind} {e b : Nat} {w : World} {v : Value} {L : List Int} (h : Rw kd e b w v L) : ∀ g, v.ownBlock = some g → g < w.heap.size := by
  obtain ⟨_, ⟨rfl, _⟩ | ⟨g, cap, cur, rfl, _, h4, _⟩⟩ := h
  · intro g hg; simp [Value.ownBlock] at hg
  · intro g' hg
    simp [Value.ownBlock] at hg
    subst hg
    exact (Array.getElem?_eq_some_iff.1 h4).1
/-- An append of one number, and where the answer lies. -/
theorem wpList_app1_at {ops : Array Oper} {rest : List Oper} {o : Oper} {a : Act} {Q : Exit → Act → World → Prop} {W : World} (hgd : o.guard = none) (s x : Operand) (t : TypeId)
    (ho : o.op = .call { callee := .builtin .append, args := #[s, x], argTypes := #[t, t] })
    (b : Nat) (e : TypeId) (kd : IntKind) (nb : Nat) (ht : Try.prog.underlying t = some (.slice e)) (hi : (Try.prog.info? e).map (fun i => (i.zero, i.size, i.bytes)) = some (some (.int kd 0), 1, nb)) (hnb : nb ≤ 8)
    (v : Value) (zs : List Int) (z : Int) (hs : a.eval s = v) (hown : Rw kd e b W v zs) (hx : a.eval x = .slice (some ⟨W.heap.size, 0, none⟩) 1 1) (hlen : zs.length < 1000000000) (hb : b ≤ W.heap.size)
    (h : ∀ v' w', Hid (Rw kd e b w' v' (zs ++ [z])) → Hid (W.grownBy w' v.ownBlock) → Hid (v'.ownBlock = v.ownBlock ∨ ∃ k, W.heap.size ≤ k ∧ v'.ownBlock = some k) → Hid (Below b W w') → wpList Try.prog ops Q rest (a.put o.dst v') w') :
    wpList Try.prog ops Q (o :: rest) a (W.alloc (.cells #[.int kd z] e)) := by
  obtain ⟨i0, hi, hz0, hz1, hz2⟩ := info_parts hi
  refine wpList_append_own_at _ hgd _ _ t ho b e i0 (.int kd 0) 1 nb ht hi hz0 hz1 hz2 rfl (by decide) v zs.length _ hs (hown.alloc _) ⟨W.heap.size, 0, none⟩ 1 1 [.int kd z] hx rfl (cells_new W #[.int kd z] e) (by simp [Value.oneCell']) (by unfold maxLen; omega) (Nat.le_trans (Nat.mul_le_mul (show zs.length + 1 ≤ 1000000000 by omega) hnb) (by decide)) (by simp; omega) ?_
  intro v' w' h1 h2 _ h4
  refine h v' w' ?_ (grown_alloc h2) ?_ (grown_below hb hown h2)
  · unfold Hid Rw
    rw [List.map_append, List.length_append]
    exact h1
  · rcases h4 with e | e
    · exact .inl e
    · exact .inr ⟨_, by simp, e⟩
set_option maxRecDepth 100000 in
set_option maxHeartbeats 4000000 in
theorem law_memory (zs : List Int) (v : Value) (w : World) (hz : zs.length < 1048577) (h : RdsA .i32 w v zs) : Calls Try.prog 8 #[v] w fun e w' => e = .returned (.bool true) ∧ Below w.heap.size w w' := by
  obtain ⟨os, hS⟩ := sorted zs
  have k0 := awake_any w
  have HA0 : Hid (Rds .i32 w v zs) := h.rds
  have HZ : Hid (zs.length < 1048577) := hz
  have hgood := enc_back zs os hz hS
  have k11 := fun w1 (hb : Below w.heap.size w w1) => encD_any zs os v w1 hz hS (HA0.out.below hb)
  obtain ⟨r, hr⟩ : ∃ r, encT zs os = r := ⟨_, rfl⟩
  simp only [hr] at k11 hgood
  obtain ⟨S, P, E⟩ := r
  unfold encV at k11
  simp only at k11 hgood
  clear h hS hr
  go_enter Try.func8, Try.ntmps8
  go_wp2_with (go_at_call 9; refine (calls_hid k0).mono ?_)
  intro _ w1 hq
  obtain ⟨rfl, b1⟩ := hq.out
  have HB1 : Hid (Below w.heap.size w w1) := b1
  have k11b := k11 w1 b1
  clear k0 hq b1 k11
  go_wp2_with (go_at_call 11; refine k11b.mono ?_)
  intro _ w2 hq
  obtain ⟨rfl, b2⟩ := hq.out
  have HB2 : Hid (Below w.heap.size w w2) := HB1.out.trans (b2.mono HB1.out.size)
  clear hq b2 k11b HB1
  by_cases c1 : E ≠ 0
  · have c3 : (E != 0) = true := by simpa using c1
    clear hgood c1
    go_wp2
    go_ret
    exact ⟨rfl, HB2.out⟩
  obtain rfl : E = 0 := Decidable.not_not.1 c1
  clear c1
  obtain ⟨g1, g2, -⟩ := hgood rfl
  have k13 := fun w => decP_any S w g2 (fun L hL => by rw [g1] at hL; cases hL; exact HZ.out)
  simp only [g1] at k13
  clear hgood g1 g2
  go_wp2_with (go_at_call 13; refine (k13 _).mono ?_)
  intro _ w3 hq
  obtain ⟨⟨va, rfl, hRa⟩, b3⟩ := hq.out
  have HB3 : Hid (Below w.heap.size w w3) := HB2.out.trans (b3.mono HB2.out.size)
  have HRa : Hid (Rw .i32 21 w.heap.size w3 va zs) := hRa.base HB2.out.size
  clear hq b3 HB2 hRa
  go_wp2_with (go_at_call 13; refine (k13 _).mono ?_)
  intro _ w4 hq
  obtain ⟨⟨vb, rfl, hRb⟩, b4⟩ := hq.out
  have HB4 : Hid (Below w.heap.size w w4) := HB3.out.trans (b4.mono HB3.out.size)
  have HApt : Hid (Apt w4 va vb zs) := Apt.of_rw hRb HRa.out.own_lt
  have HRa4 : Hid (Rw .i32 21 w.heap.size w4 va zs) := HRa.out.below b4
  obtain ⟨ab, cb, rfl, -⟩ := owns_slice hRb
  clear hq b4 HB3 hRb HRa
  obtain ⟨aa, ca, rfl, -⟩ := owns_slice HRa4.out
  have n9 : (zs.length : Int) ≤ 9007199254740992 := by have := HZ.out; omega
  go_wp2
  generalize hva : Value.slice aa zs.length ca = VA at *
  replace hva : Hid (Value.slice aa zs.length ca = VA) := hva
  have HS0 : Hid (∃ L : List Int, L.length = zs.length ∧ (∀ j, j < 0 → L.getD j 0 = -5) ∧ Rw .i32 21 w.heap.size w4 VA L ∧ Apt w4 VA (.slice ab zs.length cb) zs) := ⟨zs, rfl, fun j hj => by omega, HRa4.out, HApt.out⟩
  clear HRa4 HApt
  rw [← hva.out]
  go_loopw [41] (fun x wr => ∃ k : Nat, x = .int .i64 (k : Int) ∧ k ≤ zs.length ∧ Hid (∃ L : List Int, L.length = zs.length ∧ (∀ j, j < k → L.getD j 0 = -5) ∧ Rw .i32 21 w.heap.size wr VA L ∧ Apt wr VA (.slice ab zs.length cb) zs) ∧ Hid (Below w.heap.size w wr)) (fun x _ => zs.length - (RowKit.intOf x).toNat)
  case atStart => exact ⟨0, rfl, Nat.zero_le _, HS0.out, HB4⟩
  case round =>
    clear HS0 HB4
    obtain ⟨k, rfl, hk, HS, HB⟩ := hrel
    by_cases c : k < zs.length
    · have d1 : (k : Int) < (zs.length : Int) := by omega
      have d2 : decide ((k : Int) < (zs.length : Int)) = true := decide_eq_true d1
      obtain ⟨L, l1, l2, l3, l4⟩ := HS.out
      obtain ⟨g, cap, hv, hb, hcell, hfz, hput⟩ := l3.put k (by omega)
      have hv2 := hva.out
      rw [hv, l1] at hv2
      obtain ⟨rfl, rfl⟩ : aa = some ⟨g, 0, none⟩ ∧ ca = cap := by injection hv2 with e1 _ e3; exact ⟨e1, e3⟩
      have HE : Hid (∃ L : List Int, L.length = zs.length ∧ (∀ j, j < k + 1 → L.getD j 0 = -5) ∧ Rw .i32 21 w.heap.size (wr.setCell ⟨g, k, none⟩ (.int .i32 (-5))) VA L ∧ Apt (wr.setCell ⟨g, k, none⟩ (.int .i32 (-5))) VA (.slice ab zs.length cb) zs) := by
        refine ⟨L.set k (-5), by rw [List.length_set]; exact l1, fun j hj => ?_, hput (-5), ?_⟩
        · by_cases e : j = k
          · subst e; simp [List.getD_eq_getElem?_getD, show j < L.length by omega]
          · have := l2 j (by omega)
            rw [← this]
            simp [List.getD_eq_getElem?_getD, List.getElem?_set_ne (Ne.symm e)]
        · rw [← hva.out] at l4 ⊢
          exact l4.set
      have HB2 : Hid (Below w.heap.size w (wr.setCell ⟨g, k, none⟩ (.int .i32 (-5)))) := HB.out.setCell (by simpa using hb) _
      have k9 : (k : Int) ≤ 9007199254740992 := by omega
      clear HS l2 l3 l4 hput hv hv2 l1 HB hb
      go_wp2
      refine ⟨⟨k + 1, by simp, by omega, HE, HB2⟩, ?_⟩
      simp [RowKit.intOf]; omega
    · obtain rfl : k = zs.length := by omega
      have d2 : decide ((zs.length : Int) < (zs.length : Int)) = false := by simp
      have HS1 : Hid (∃ L : List Int, L.length = zs.length + 0 ∧ (∀ j, j < zs.length → L.getD j 0 = -5) ∧ Rw .i32 21 w.heap.size wr (.slice aa zs.length ca) L ∧ Apt wr (.slice aa zs.length ca) (.slice ab zs.length cb) zs) := by
        obtain ⟨L, l1, l2, l3, l4⟩ := HS.out
        exact ⟨L, l1, l2, by rw [hva.out]; exact l3, by rw [hva.out]; exact l4⟩
      clear HS c d2
      go_wp2
      go_loopw [6, 48] (fun va x wr => ∃ k : Nat, x = .int .i64 (k : Int) ∧ k ≤ 9 ∧ Hid (∃ L : List Int, L.length = zs.length + k ∧ (∀ j, j < zs.length → L.getD j 0 = -5) ∧ Rw .i32 21 w.heap.size wr va L ∧ Apt wr va (.slice ab zs.length cb) zs) ∧ Hid (Below w.heap.size w wr)) (fun _ x _ => 9 - (RowKit.intOf x).toNat)
      case atStart => exact ⟨0, rfl, Nat.zero_le _, HS1.out, HB⟩
      case round =>
        clear HS1 HB
        obtain ⟨k, rfl, hk, HS, HB⟩ := hrel
        obtain ⟨V, hV⟩ : ∃ V, u6 = V := ⟨_, rfl⟩
        rw [hV] at HS ⊢
        clear hV
        by_cases c : k < 9
        · have d1 : (k : Int) < 9 := by omega
          have d2 : decide ((k : Int) < 9) = true := decide_eq_true d1
          obtain ⟨L, l1, l2, l3, l4⟩ := HS.out
          have HR : Hid (Rw .i32 21 w.heap.size wr V L) := l3
          have HA : Hid (Apt wr V (.slice ab zs.length cb) zs) := l4
          have HL : Hid (L.length = zs.length + k ∧ ∀ j, j < zs.length → L.getD j 0 = -5) := ⟨l1, l2⟩
          have hll : L.length < 1000000000 := by have := HZ.out; omega
          have hwz : w.heap.size ≤ wr.heap.size := HB.out.size
          clear HS l1 l2 l3 l4
          go_wp2_with (at_builtin; go_must (refine wpList_app1_at rfl _ _ 22 rfl w.heap.size 21 .i32 4 Try.underlying22 info21 (by decide) V L (-4) rfl HR.out rfl hll hwz ?_))
          intro v' w5 hR5 hg5 hl5 hB5
          have HE : Hid (∃ L : List Int, L.length = zs.length + (k + 1) ∧ (∀ j, j < zs.length → L.getD j 0 = -5) ∧ Rw .i32 21 w.heap.size w5 v' L ∧ Apt w5 v' (.slice ab zs.length cb) zs) := by
            refine ⟨L ++ [-4], by rw [List.length_append]; have := HL.out.1; simp; omega, fun j hj => ?_, hR5.out, HA.out.grown hg5.out hl5.out⟩
            rw [← HL.out.2 j hj]
            simp only [List.getD_eq_getElem?_getD]
            rw [List.getElem?_append_left (by have := HL.out.1; omega)]
          have HB5 : Hid (Below w.heap.size w w5) := HB.out.trans hB5.out
          clear HR HA HL hll hwz hR5 hg5 hl5 hB5 HB
          go_wp2
          refine ⟨⟨k + 1, by simp, by omega, HE, HB5⟩, ?_⟩
          simp [RowKit.intOf]; omega
        · obtain rfl : k = 9 := by omega
          obtain ⟨L, l1, l2, l3, l4⟩ := HS.out
          have HR : Hid (Rw .i32 21 w.heap.size wr V L) := l3
          have HL : Hid (L.length = zs.length + 9 ∧ ∀ j, j < zs.length → L.getD j 0 = -5) := ⟨l1, l2⟩
          have k12 := sameL_any zs (.slice ab zs.length cb) v wr l4.rds (HA0.out.below HB.out) (by have := HZ.out; omega)
          obtain ⟨av, cv, rfl, -⟩ := owns_slice l3
          clear HS l1 l2 l3 l4 c
          go_wp2_with (go_at_call 12; refine (calls_hid k12).mono ?_)
          intro _ w5 hq
          obtain ⟨rfl, b5⟩ := hq.out
          have HB5 : Hid (Below w.heap.size w w5) := HB.out.trans (b5.mono HB.out.size)
          have HR5 : Hid (Rw .i32 21 w.heap.size w5 (.slice av L.length cv) L) := HR.out.below b5
          have hl9 : (L.length : Int) - 9 = (zs.length : Int) := by have := HL.out.1; omega
          have hll9 : (L.length : Int) ≤ 9007199254740992 := by have := HL.out.1; have := HZ.out; omega
          clear hq b5 k12 HB HR
          go_wp2
          go_loopw [61] (fun x wr => ∃ k : Nat, x = .int .i64 (k : Int) ∧ k ≤ zs.length ∧ Hid (wr = w5)) (fun x _ => zs.length - (RowKit.intOf x).toNat)
          case atStart => exact ⟨0, rfl, Nat.zero_le _, rfl⟩
          case round =>
            obtain ⟨k, rfl, hk, hw⟩ := hrel
            rw [Hid] at hw
            subst hw
            by_cases c : k < zs.length
            · have d1 : (k : Int) < (zs.length : Int) := by omega
              have d2 : decide ((k : Int) < (zs.length : Int)) = true := decide_eq_true d1
              obtain ⟨g, cap, hv, -, hcell, -, -⟩ := HR5.out.put k (by have := HL.out.1; omega)
              obtain ⟨rfl, rfl⟩ : av = some ⟨g, 0, none⟩ ∧ cv = cap := by injection hv with e1 _ e3; exact ⟨e1, e3⟩
              rw [HL.out.2 k c] at hcell
              have d3 : (k : Int) < (L.length : Int) := by have := HL.out.1; omega
              have k9 : (k : Int) ≤ 9007199254740992 := by omega
              clear hv
              go_wp2
              refine ⟨⟨k + 1, by simp, by omega, by first | exact trivial | exact rfl⟩, ?_⟩
              simp [RowKit.intOf]; omega
            · obtain rfl : k = zs.length := by omega
              have d2 : decide ((zs.length : Int) < (zs.length : Int)) = false := by simp
              clear c
              go_wp2_with (go_at_call 13; refine (k13 _).mono ?_)
              intro _ w6 hq
              obtain ⟨⟨vc, rfl, hRc⟩, b6⟩ := hq.out
              have HB6 : Hid (Below w.heap.size w w6) := HB5.out.trans (b6.mono HB5.out.size)
              have k12 := sameL_any zs vc v w6 hRc.rds (HA0.out.below HB6.out) (by have := HZ.out; omega)
              obtain ⟨ac, cc, rfl, -⟩ := owns_slice hRc
              clear hq b6 k13 HB5 hRc HR5
              go_wp2_with (go_at_call 12; refine (calls_hid k12).mono ?_)
              intro _ w7 hq
              obtain ⟨rfl, b7⟩ := hq.out
              have HB7 : Hid (Below w.heap.size w w7) := HB6.out.trans (b7.mono HB6.out.size)
              clear hq b7 k12 HB6
              go_wp2
              go_ret
              exact ⟨rfl, HB7.out⟩
end Go.Proofs.Ytahmeejcgddlhaa
