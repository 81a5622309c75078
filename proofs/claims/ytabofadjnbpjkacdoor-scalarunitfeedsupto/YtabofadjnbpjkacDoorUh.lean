/-
  The contract of the statements' fedUnits: a decoder of units that is as new, handed lists one by one, tells and holds what the document says, and is as new behind it. Conditions: the lists have together at most about a million units.
-/
import Derived.Test.YtabofadjnbpjkacDoorUg
namespace Go.Proofs.YtabofadjnbpjkacDoor
open Go.RowKit Go.Lib
theorem info30 : (Tryd.prog.info? 30).map (fun i => (i.zero, i.size, i.bytes)) = some (some (.int .u16 0), 1, 2) := by kernel_rfl
/-- 'append' of a list of units that came in onto a row of the call's own. -/
theorem wpList_append_more {w : World} {ops : Array Oper} {rest : List Oper} {o : Oper} {a : Act} {Q : Exit → Act → World → Prop} (hgd : o.guard = none) (s x : Operand)
    (ho : o.op = .call { callee := .builtin .append, args := #[s, x], argTypes := #[35, 35] }) (base n : Nat) (xs : List Value) (v0 v : Value) (zs : List Int) (hs : a.eval s = v0) (hown : w.ownsRow base 30 1 v0 n xs) (hx : a.eval x = v) (hr : RdsA .u16 w v zs) (hl : n + zs.length ≤ 1048576) (hb : base ≤ w.heap.size)
    (K : ∀ v' w', w'.ownsRow base 30 1 v' (n + zs.length) (xs ++ zs.map fun z => Value.int .u16 z) → w.grownBy w' v0.ownBlock → wpList Tryd.prog ops Q rest (a.put o.dst v') w') : wpList Tryd.prog ops Q (o :: rest) a w := by
  obtain ⟨i0, hi, hz0, hz1, hz2⟩ := info_parts info30
  obtain ⟨rfl, rfl⟩ | ⟨ad, c, rfl, h⟩ := hr
  · exact wpList_append_own_none hgd s x 35 ho base 30 i0 1 Tryd.underlying35 hi v0 n xs hs hown hx (K _ _ (by simpa using hown) ⟨rfl, rfl, rfl, Nat.le_refl _, fun _ _ _ => rfl⟩)
  · refine wpList_append_own _ hgd s x 35 ho base 30 i0 (.int .u16 0) 1 2 Tryd.underlying35 hi hz0 hz1 hz2 rfl (by decide) v0 n xs hs hown ad zs.length c (zs.map fun z => Value.int .u16 z) hx (by simp) (fun j u hj => ?_) (by simp [Value.oneCell']) (by unfold maxLen; omega) (by omega) hb (fun v' w' ho' hg' _ => K v' w' ho' hg')
    have hj' : j < zs.length := by have := (List.getElem?_eq_some_iff.1 hj).1; simpa using this
    rw [h j hj', ← hj]
    simp [List.getD, List.getElem?_eq_getElem hj']
/-- A list's end, cut off at a place that it has. -/
theorem wpList_tail {w : World} {ops : Array Oper} {rest : List Oper} {o : Oper} {a : Act} {Q : Exit → Act → World → Prop} (hgd : o.guard = none) (s x : Operand) (ho : o.op = .slice 33 s (some x) none none) (ad : Option Addr) (len cap k : Nat) (hs : a.eval s = .slice ad len cap) (hx : a.eval x = .int .i64 (k : Nat)) (hk : k ≤ len) (sv : Value) (hsv : sliced ad k len cap 1 = sv)
    (K : wpList Tryd.prog ops Q rest (a.put o.dst sv) w) : wpList Tryd.prog ops Q (o :: rest) a w :=
  wpList_plain hgd fun K' hK => by
    unfold Oper.wp execOp
    simp only [ho, hs, hx, Option.map_some, Option.map_none, Sem.run_bind, run_tail w ad len cap k hk, Result.andThen_ok, Sem.run_pure, hsv]
    exact hK _ _ K
/-- What is said of the slots of the region behind each list. -/
def l11 (B : Nat) (pv : Value) (L M : List Int) (wa : Option Addr) (wc : Nat) : List (Value → World → Prop) :=
  [isV (.pointer (some ⟨B, 0, none⟩)), isV pv, fun v w => Rds .i32 w v M, isV (.slice wa (L ++ M).length wc), isV (.int .i64 (L.length : Nat)), isV (sliced wa L.length (L ++ M).length wc 1), isV (.bool true), isV (.bool false)]
theorem l11_const {B : Nat} {pv : Value} {L M : List Int} {wa : Option Addr} {wc : Nat} {j : Nat} {u : Value} {w w' : World} (hj : j ≠ 2) (h : nthP (l11 B pv L M wa wc) j u w) : nthP (l11 B pv L M wa wc) j u w' := by
  match j, hj, h with
  | 0, _, h => exact h
  | 1, _, h => exact h
  | 2, hj, h => exact absurd rfl hj
  | 3, _, h => exact h
  | 4, _, h => exact h
  | 5, _, h => exact h
  | 6, _, h => exact h
  | 7, _, h => exact h
  | m + 8, _, _ => exact trivial
theorem l11_stays {B : Nat} {pv : Value} {L M : List Int} {wa : Option Addr} {wc : Nat} : AllP Stays (l11 B pv L M wa wc) := by
  refine ⟨Stays.isV, Stays.isV, ?_, Stays.isV, Stays.isV, Stays.isV, Stays.isV, Stays.isV, trivial⟩
  exact fun _ _ _ h hb => h.below hb
/-- What is said of memory: the decoder ahead of and behind its turn, the document's list, all units so far, what was there. -/
def gU (B : Nat) (h h' : Int) (L M T : List Int) (wa : Option Addr) (wc bw ba : Nat) (x1 : Value) (w0 : World) : (Nat → Bool) → World → Prop :=
  fun s w => (if s 2 = true then Boxed w B 67 (.int .u16 h') else Boxed w B 67 (.int .u16 h)) ∧ w.ownsRow bw 21 1 (.slice wa (L ++ M).length wc) (L ++ M).length ((L ++ M).map fun z => Value.int .i32 z) ∧ w.ownsRow ba 30 1 x1 T.length (T.map fun z => Value.int .u16 z) ∧ Below w0.heap.size w0 w ∧ ba ≤ w.heap.size
theorem gU_calm {B : Nat} {h h' : Int} {L M T : List Int} {wa : Option Addr} {wc bw ba : Nat} {x1 : Value} {w0 : World} {l : List (Value → World → Prop)} (hl : AllP Stays l) (i : Nat) (hi : i ≠ 2) : Calm (gU B h h' L M T wa wc bw ba x1 w0) (fun _ => nthP l) i := by
  refine ⟨fun s w w' _ hq hb => ?_, fun s j u w w' _ _ hu hb => nthP_stays hl j u w w' hu hb⟩
  obtain ⟨h1, h2, h3, h4, h5⟩ := hq
  have e : mark s i 2 = s 2 := if_neg (Ne.symm hi)
  refine ⟨?_, owns_below h2 hb, owns_below h3 hb, h4.trans (hb.mono h4.size), Nat.le_trans h5 hb.size⟩
  rw [e]
  by_cases c : s 2 = true
  · rw [if_pos c] at h1 ⊢; exact boxed_below h1 hb
  · rw [if_neg c] at h1 ⊢; exact boxed_below h1 hb
/-- What stands behind k lists. -/
def UI (rs : List (List Int)) (w0 w : World) (B k : Nat) (x : Value) (wr : World) : Prop :=
  wr.ownsRow w.heap.size 30 1 x (rs.take k).flatten.length ((rs.take k).flatten.map fun z => Value.int .u16 z) ∧ Boxed wr B 67 (.int .u16 (hlU 0 (rs.take k).flatten)) ∧ Below w0.heap.size w0 wr ∧ w.heap.size ≤ wr.heap.size
theorem flat_step (rs : List (List Int)) (k : Nat) (h : k < rs.length) : (rs.take (k + 1)).flatten = (rs.take k).flatten ++ rs.getD k [] := by
  rw [List.take_add_one, List.getElem?_eq_getElem h]
  rw [List.flatten_append]
  simp [List.getD, List.getElem?_eq_getElem h]
theorem flat_le (rs : List (List Int)) (k : Nat) : (rs.take k).flatten.length ≤ rs.flatten.length := by
  have : rs.flatten = (rs.take k).flatten ++ (rs.drop k).flatten := by rw [← List.flatten_append, List.take_append_drop]
  rw [this, List.length_append]; omega
theorem flat_mem (rs : List (List Int)) (k : Nat) (z : Int) (h : z ∈ (rs.take k).flatten) : z ∈ rs.flatten := by
  have : rs.flatten = (rs.take k).flatten ++ (rs.drop k).flatten := by rw [← List.flatten_append, List.take_append_drop]
  rw [this]; exact List.mem_append_left _ h
theorem sure_mem (A : List Int) (z : Int) (h : z ∈ sureU A) : z ∈ A := by
  rw [sure_is A]; exact List.mem_append_left _ h
theorem sure_le (A : List Int) : (sureU A).length ≤ A.length := by
  have := congrArg List.length (sure_is A)
  rw [List.length_append] at this; omega
theorem owns_cap {W : World} {b e n g c : Nat} {xs : List Value} (h : W.ownsRow b e 1 (.slice (some ⟨g, 0, none⟩) n c) n xs) : n ≤ c := by
  obtain ⟨_, ⟨h2, _⟩ | ⟨g', cap', cur, h2, _, _, h5, _⟩⟩ := h
  · cases h2
  · cases h2; exact h5
/-- The beginning of a row reads as the beginning of its numbers. -/
theorem rds_front {W : World} {b g n c : Nat} {T0 : List Int} {u : Int} (h : W.ownsRow b 30 1 (.slice (some ⟨g, 0, none⟩) n c) n ((T0 ++ [u]).map fun z => Value.int .u16 z)) : Rds .u16 W (.slice (some ⟨g, 0, none⟩) T0.length c) T0 := by
  refine ⟨_, _, rfl, fun _ => ⟨g, 0, rfl, fun j hj => ?_⟩⟩
  rw [Nat.zero_add]
  refine owns_cell h rfl j _ ?_
  rw [List.getElem?_map, List.getElem?_append_left hj]
  simp [List.getD, List.getElem?_eq_getElem hj]
set_option maxRecDepth 100000 in
set_option maxHeartbeats 16000000 in
theorem fed_any (rs : List (List Int)) (v : Value) (B : Nat) (w0 w : World) (hR : URows w0 v rs) (hU : ∀ z ∈ rs.flatten, 0 ≤ z ∧ z < 65536) (t1 : rs.flatten.length ≤ 1048576) (n1 : rs.length ≤ 1048576) (hB : Below w0.heap.size w0 w) (hnb : w0.heap.size ≤ B) (d : Boxed w B 67 (.int .u16 0)) :
    Calls Tryd.prog 12 #[.pointer (some ⟨B, 0, none⟩), v] w fun e w' => e = .returned (.bool true) ∧ Boxed w' B 67 (.int .u16 0) ∧ Below w0.heap.size w0 w' := by
  obtain ⟨av, cv, rfl, r1⟩ := hR
  have H1 : Hid (0 < rs.length → ∃ g o, av = some ⟨g, o, none⟩ ∧ g < w0.heap.size ∧ ∀ j, j < rs.length → ∃ x, w0.cell? ⟨g, o + j, none⟩ = some x ∧ RdsA .u16 w0 x (rs.getD j [])) := r1
  have hBl := d.lt
  have HU : Hid (∀ z ∈ rs.flatten, 0 ≤ z ∧ z < 65536) := hU
  have H0 : Hid (UI rs w0 w B 0 (.slice (some ⟨w.heap.size, 0, none⟩) 0 0) (w.alloc (.cells #[] 30))) := ⟨own_empty w 30, d.alloc _, hB.alloc hB.size _, by simp⟩
  clear r1 d hB hU
  go_enter Tryd.func12, Tryd.ntmps12
  go_wp2
  go_loopw [5, 6, 17] (fun x td i wr => ∃ k : Nat, i = .int .i64 k ∧ k ≤ rs.length ∧ td = .int .i64 ((fu (sureU (rs.take k).flatten)).length : Nat) ∧ Hid (UI rs w0 w B k x wr)) (fun _ _ i _ => rs.length - (RowKit.intOf i).toNat)
  case atStart => exact ⟨0, rfl, Nat.zero_le _, rfl, H0⟩
  case round =>
    clear H0
    obtain ⟨k, rfl, hk, rfl, HI⟩ := hrel
    by_cases l1 : k < rs.length
    · have l1i : (k : Int) < (rs.length : Int) := by omega
      obtain ⟨g, o, rfl, hg, hrow⟩ := H1.out (by omega)
      obtain ⟨pv, hcw, hpv⟩ := hrow k l1
      have hcell : wr.cell? ⟨g, o + k, none⟩ = some pv := (HI.out.2.2.1.cell (p := ⟨g, o + k, none⟩) hg).trans hcw
      obtain ⟨us, hus⟩ : ∃ us, rs.getD k [] = us := ⟨_, rfl⟩
      obtain ⟨A, hA⟩ : ∃ A, (rs.take k).flatten = A := ⟨_, rfl⟩
      obtain ⟨T, hT⟩ : ∃ T, (rs.take (k + 1)).flatten = T := ⟨_, rfl⟩
      have eT : T = A ++ us := by rw [← hT, flat_step rs k l1, hA, hus]
      have hTl : T.length ≤ 1048576 := by rw [← hT]; exact Nat.le_trans (flat_le rs _) t1
      have hTm : ∀ z ∈ T, 0 ≤ z ∧ z < 65536 := fun z hz => HU.out z (flat_mem rs (k + 1) z (by rw [hT]; exact hz))
      have HUS : Hid (∀ z ∈ us, 0 ≤ z ∧ z < 65536) := fun z hz => hTm z (by rw [eT]; exact List.mem_append_right _ hz)
      have hlen : T.length = A.length + us.length := by rw [eT, List.length_append]
      have husl : us.length ≤ 1048576 := by omega
      rw [hus] at hpv
      have HPV : Hid (RdsA .u16 w0 pv us) := hpv
      obtain ⟨ho, hbx, hbl, hws⟩ := HI.out
      rw [hA] at ho hbx
      rw [hA]
      have HO : Hid (wr.ownsRow w.heap.size 30 1 u5 A.length (A.map fun z => Value.int .u16 z)) := ho
      have HX : Hid (Boxed wr B 67 (.int .u16 (hlU 0 A))) := hbx
      have HBL : Hid (Below w0.heap.size w0 wr) := hbl
      have HPW : Hid (RdsA .u16 wr pv us) := hpv.below hbl
      obtain ⟨M, hM1, hM2⟩ := told_ex A us
      rw [← eT] at hM1 hM2
      obtain ⟨L, hL⟩ : ∃ L, fu (sureU A) = L := ⟨_, rfl⟩
      obtain ⟨h, hh⟩ : ∃ h, hlU 0 A = h := ⟨_, rfl⟩
      obtain ⟨h', hh'⟩ : ∃ h', hlU 0 T = h' := ⟨_, rfl⟩
      rw [hL] at hM1
      rw [hh] at hM2 HX
      rw [hh'] at hM2
      rw [hL]
      have HMM : Hid (fuH h us = M ++ fuH h' []) := hM2
      have HM1 : Hid (fu (sureU T) = L ++ M) := hM1
      have HHL : Hid (h' = hlU h us) := by unfold Hid; rw [← hh', ← hh, eT]; exact hlU_app A us
      have HH : Hid (h = 0 ∨ (55296 ≤ h ∧ h < 56320)) := by
        unfold Hid
        by_cases c : h = 0
        · exact .inl c
        · rw [← hh] at c ⊢; exact .inr (hlU_high A c)
      have hMl : M.length ≤ 140737488355328 := by
        have := congrArg List.length hM1
        have := fu_len (sureU T)
        have := sure_le T
        rw [List.length_append] at *; omega
      have hMl2 : (L ++ M).length ≤ 1048576 := by
        rw [← hM1]
        have := fu_len (sureU T)
        have := sure_le T
        omega
      have HTk : Hid ((rs.take (k + 1)).flatten = T) := hT
      have HET : Hid (T = A ++ us) := eT
      have hhT : Hid (hlU 0 T = h') := hh'
      clear hcw hpv ho hbx hbl hM1 hM2 hA hT hh hh' hL HI hus eT hrow
      go_wp2_with (at_builtin; refine wpList_append_more rfl _ _ rfl w.heap.size _ _ _ _ us rfl HO.out rfl HPW.out (by omega) hws ?_; intro x1 w1 ho1 hg1)
      have hnB : ∀ j, u5.ownBlock = some j → w.heap.size ≤ j := fun j hj => (HO.out.lt j hj).1
      have bx1 : Boxed w1 B 67 (.int .u16 h) := HX.out.kept hg1 (fun e => by have := hnB B e.symm; omega)
      have hbl1 : Below w0.heap.size w0 w1 := HBL.out.grown hg1 HBL.out.size (fun j hj => by have := hnB j hj; omega)
      have hws1 : w.heap.size ≤ w1.heap.size := Nat.le_trans hws hg1.size
      obtain ⟨n, hn⟩ : ∃ n, n = A.length + us.length := ⟨_, rfl⟩
      rw [← hn] at ho1 hlen
      have ho2 : w1.ownsRow w.heap.size 30 1 x1 n (T.map fun z => Value.int .u16 z) := by rw [HET.out, List.map_append]; exact ho1
      clear ho1 hg1 hn HPW HO HX HBL
      obtain ⟨a1, c1, rfl, hpos⟩ := owns_slice ho2
      have HA1 : Hid (w1.ownsRow w.heap.size 30 1 (.slice a1 n c1) n (T.map fun z => Value.int .u16 z)) := ho2
      have B1 : Hid (Boxed w1 B 67 (.int .u16 h)) := bx1
      have BL1 : Hid (Below w0.heap.size w0 w1) := hbl1
      clear bx1 hbl1
      rcases List.eq_nil_or_concat T with hT0 | ⟨T0, u, hT0⟩
      · have hn0 : n = 0 := by rw [← hlen, hT0]; rfl
        subst hn0
        have hz' : h' = 0 := by rw [← hhT.out, hT0]; rfl
        have HSU : Hid (sureU T = []) := by unfold Hid; rw [hT0]; rfl
        have HSR : Hid (Rds .u16 w1 (.slice a1 0 c1) []) := ⟨_, _, rfl, fun hp => by cases hp⟩
        have KF := rfrom_any [] (.slice a1 0 c1) w1 (by have := sure_le T; rw [HSU.out] at this; omega) HSR.out (fun z hz => hTm z (sure_mem T z (by rw [HSU.out]; exact hz)))
        clear hTm
        go_wp2
        go_simp
        go_wp2_with (go_at_call 30; refine KF.mono ?_)
        first | rintro e w2 x2 rfl o2 b2 | rintro e w2 ⟨x2, rfl, o2, b2⟩
        rw [← HSU.out, HM1.out] at o2
        obtain ⟨wa, wc, rfl, _⟩ := owns_slice o2
        have HG : Hid (Boxed w2 B 67 (.int .u16 h) ∧ w2.ownsRow w1.heap.size 21 1 (.slice wa (L ++ M).length wc) (L ++ M).length ((L ++ M).map fun z => Value.int .i32 z) ∧ w2.ownsRow w.heap.size 30 1 (.slice a1 0 c1) T.length (T.map fun z => Value.int .u16 z) ∧ Below w0.heap.size w0 w2 ∧ w.heap.size ≤ w2.heap.size) := ⟨boxed_below B1.out b2, o2, by rw [hlen]; exact owns_below HA1.out b2, BL1.out.trans (b2.mono BL1.out.size), Nat.le_trans hws1 b2.size⟩
        clear o2 b2 KF HSR
        go_wp2
        refine wp_keep fun a0 ha0 => ?_
        have hz : a0.tmps.size = 101 := by rw [ha0]; rfl
        have s0 : a0.tmps[0]? = some (.pointer (some ⟨B, 0, none⟩)) := by rw [ha0]; rfl
        have s8 : a0.tmps[8]? = some pv := by rw [ha0]; rfl
        have s11 : a0.tmps[11]? = some (.slice wa (L ++ M).length wc) := by rw [ha0, List.length_append]; rfl
        have s6 : a0.tmps[6]? = some (.int .i64 (L.length : Nat)) := by rw [ha0]; rfl
        have hcalm := fun i hi => gU_calm (B := B) (h := h) (h' := h') (L := L) (M := M) (T := T) (wa := wa) (wc := wc) (bw := w1.heap.size) (ba := w.heap.size) (x1 := .slice a1 0 c1) (w0 := w0) (l11_stays (B := B) (pv := pv) (L := L) (M := M) (wa := wa) (wc := wc)) i hi
        have HA : Hid (a0 = _) := ha0
        clear ha0
        refine wp_region_turn (gU B h h' L M T wa wc w1.heap.size w.heap.size (.slice a1 0 c1) w0) (fun _ => nthP (l11 B pv L M wa wc)) 101 hz (by kernel_rfl) (by kernel_rfl) ?start ⟨?o0, ?o1, ?o2, ?o3, ?o4, ?o5, ?o6, ?o7, trivial⟩ ?done
        case start =>
          intro w4 hb4 hs4 s hs
          have G := HG.out
          exact ⟨by rw [if_neg (by rw [hs]; simp)]; exact boxed_below G.1 hb4, owns_below G.2.1 hb4, owns_below G.2.2.1 hb4, G.2.2.2.1.trans (hb4.mono G.2.2.2.1.size), Nat.le_trans G.2.2.2.2 hb4.size⟩
        case o0 =>
          refine FlowOp4.plain (hcalm 0 (by decide)) fun a1 w4 s cx => ?_
          have s0 := cx.keep 0 _ (by kernel_rfl) s0
          refine ⟨wanted_none rfl, fun K hK => ?_⟩
          exact wp_moved _ rfl _ (ev_tmp s0) (hK.out _ _ rfl (Below.refl _ _))
        case o1 =>
          refine FlowOp4.plain (hcalm 1 (by decide)) fun a1 w4 s cx => ?_
          have s8 := cx.keep 8 _ (by kernel_rfl) s8
          refine ⟨wanted_none rfl, fun K hK => ?_⟩
          exact wp_moved _ rfl _ (ev_tmp s8) (hK.out _ _ rfl (Below.refl _ _))
        case o2 =>
          refine FlowOp4.turn fun a2 w4 s cx => ?_
          obtain ⟨v54, s54, p54⟩ := cx.slot 0 54 (by kernel_rfl)
          replace p54 : v54 = .pointer (some ⟨B, 0, none⟩) := p54
          subst p54
          obtain ⟨v55, s55, p55⟩ := cx.slot 1 55 (by kernel_rfl)
          replace p55 : v55 = pv := p55
          subst p55
          obtain ⟨dd, gr, ga, bl, gs⟩ := cx.ground
          rw [if_neg (by rw [cx.new]; simp)] at dd
          refine ⟨wanted_none rfl, fun K hK => ?_⟩
          refine wp_gen_call [(54, .pointer (some ⟨B, 0, none⟩)), (55, v55)] ⟨s54, s55, trivial⟩ (vs := #[.pointer (some ⟨B, 0, none⟩), v55]) (f := 14) (by kernel_rfl) (fun w => by kernel_rfl) ?_
          refine (feed_any h us v55 w0.heap.size B w4 (by omega) HH.out (fun W hW => (HPV.out.below (bl.trans hW)).rds) HUS.out hnb (by omega) dd).mono ?_
          rintro e w5 ⟨v, rfl, pre, hx, _, _, hfu, hke, ho, bx, kb⟩
          rw [List.take_length] at hke
          rw [List.drop_length] at hfu
          obtain rfl : hx = h' := by rw [hke]; exact HHL.out.symm
          obtain rfl : pre = M := by
            have := hfu.symm.trans HMM.out
            exact List.append_cancel_right this
          refine ⟨_, rfl, hK.out v w5 ⟨?_, owns_kb gr (by omega) kb, owns_kb ga (by omega) kb, bl.trans kb.bel, Nat.le_trans gs kb.size⟩ (Rds.of_owns ho) (fun j u hj hu => l11_const (fun q => by rw [q, cx.new] at hj; cases hj) hu)⟩
          rw [if_pos (by simp [mark])]
          exact bx
        case o3 =>
          refine FlowOp4.plain (hcalm 3 (by decide)) fun a1 w4 s cx => ?_
          have s11 := cx.keep 11 _ (by kernel_rfl) s11
          refine ⟨wanted_none rfl, fun K hK => ?_⟩
          exact wp_moved _ rfl _ (ev_tmp s11) (hK.out _ _ rfl (Below.refl _ _))
        case o4 =>
          refine FlowOp4.plain (hcalm 4 (by decide)) fun a1 w4 s cx => ?_
          have s6 := cx.keep 6 _ (by kernel_rfl) s6
          refine ⟨wanted_none rfl, fun K hK => ?_⟩
          exact wp_moved _ rfl _ (ev_tmp s6) (hK.out _ _ rfl (Below.refl _ _))
        case o5 =>
          refine FlowOp4.plain (hcalm 5 (by decide)) fun a1 w4 s cx => ?_
          obtain ⟨v57, s57, p57⟩ := cx.slot 3 57 (by kernel_rfl)
          replace p57 : v57 = .slice wa (L ++ M).length wc := p57
          subst p57
          obtain ⟨v58, s58, p58⟩ := cx.slot 4 58 (by kernel_rfl)
          replace p58 : v58 = .int .i64 (L.length : Nat) := p58
          subst p58
          refine ⟨wanted_none rfl, fun K hK => ?_⟩
          exact wp_gen [(57, .slice wa (L ++ M).length wc), (58, .int .i64 (L.length : Nat))] ⟨s57, s58, trivial⟩ (by kernel_rfl) (slice_op _ 57 58 rfl rfl w4 wa (L ++ M).length wc L.length (by rw [List.length_append]; omega)) (hK.out _ _ rfl (Below.refl _ _))
        case o6 =>
          refine FlowOp4.plain (hcalm 6 (by decide)) fun a1 w4 s cx => ?_
          obtain ⟨v56, s56, p56⟩ := cx.slot 2 56 (by kernel_rfl)
          replace p56 : Rds .i32 w4 v56 M := p56
          obtain ⟨v59, s59, p59⟩ := cx.slot 5 59 (by kernel_rfl)
          replace p59 : v59 = sliced wa L.length (L ++ M).length wc 1 := p59
          subst p59
          have gr := cx.ground.2.1
          refine ⟨wanted_none rfl, fun K hK => ?_⟩
          refine wp_gen_call [(56, v56), (59, sliced wa L.length (L ++ M).length wc 1)] ⟨s56, s59, trivial⟩ (vs := #[v56, sliced wa L.length (L ++ M).length wc 1]) (f := 31) (by kernel_rfl) (fun w => by kernel_rfl) ?_
          refine (same_rds M v56 _ w4 p56 (rds_tail gr) hMl).mono ?_
          rintro e w5 ⟨rfl, hb⟩
          exact ⟨_, rfl, hK.out _ _ rfl hb⟩
        case o7 =>
          refine FlowOp4.plain (hcalm 7 (by decide)) fun a1 w4 s cx => ?_
          obtain ⟨v60, s60, p60⟩ := cx.slot 6 60 (by kernel_rfl)
          replace p60 : v60 = .bool true := p60
          subst p60
          refine ⟨wanted_none rfl, fun K hK => ?_⟩
          exact wp_gen [(60, .bool true)] ⟨s60, trivial⟩ (by kernel_rfl) (v := .bool false) (w' := w4) (by kernel_rfl) (hK.out _ _ rfl (Below.refl _ _))
        case done =>
          intro a w4 s hall hgr hsz hdf hkp hgot
          obtain ⟨v54, s54, p54⟩ := got_slot4 (s := s) (V := fun _ => nthP (l11 B pv L M wa wc)) hgot 0 54 (by kernel_rfl)
          replace p54 : v54 = .pointer (some ⟨B, 0, none⟩) := p54
          subst p54
          obtain ⟨v55, s55, p55⟩ := got_slot4 (s := s) (V := fun _ => nthP (l11 B pv L M wa wc)) hgot 1 55 (by kernel_rfl)
          replace p55 : v55 = pv := p55
          rw [p55] at s55
          obtain ⟨v56, s56, p56⟩ := got_slot4 (s := s) (V := fun _ => nthP (l11 B pv L M wa wc)) hgot 2 56 (by kernel_rfl)
          obtain ⟨v57, s57, p57⟩ := got_slot4 (s := s) (V := fun _ => nthP (l11 B pv L M wa wc)) hgot 3 57 (by kernel_rfl)
          replace p57 : v57 = .slice wa (L ++ M).length wc := p57
          subst p57
          obtain ⟨v58, s58, p58⟩ := got_slot4 (s := s) (V := fun _ => nthP (l11 B pv L M wa wc)) hgot 4 58 (by kernel_rfl)
          replace p58 : v58 = .int .i64 (L.length : Nat) := p58
          subst p58
          obtain ⟨v59, s59, p59⟩ := got_slot4 (s := s) (V := fun _ => nthP (l11 B pv L M wa wc)) hgot 5 59 (by kernel_rfl)
          replace p59 : v59 = sliced wa L.length (L ++ M).length wc 1 := p59
          subst p59
          obtain ⟨v60, s60, p60⟩ := got_slot4 (s := s) (V := fun _ => nthP (l11 B pv L M wa wc)) hgot 6 60 (by kernel_rfl)
          replace p60 : v60 = .bool true := p60
          subst p60
          obtain ⟨v61, s61, p61⟩ := got_slot4 (s := s) (V := fun _ => nthP (l11 B pv L M wa wc)) hgot 7 61 (by kernel_rfl)
          replace p61 : v61 = .bool false := p61
          subst p61
          have ha := act_is a a0 [(54, .pointer (some ⟨B, 0, none⟩)), (55, pv), (56, v56), (57, .slice wa (L ++ M).length wc), (58, .int .i64 (L.length : Nat)), (59, sliced wa L.length (L ++ M).length wc 1), (60, .bool true), (61, .bool false)] (by rw [hsz, hz]) hdf (fun t ht => hkp t (keptAll_of (l := ([(54, .pointer (some ⟨B, 0, none⟩)), (55, pv), (56, v56), (57, .slice wa (L ++ M).length wc), (58, .int .i64 (L.length : Nat)), (59, sliced wa L.length (L ++ M).length wc 1), (60, .bool true), (61, .bool false)] : List (Nat × Value)).map (·.1)) (by kernel_rfl) t ht)) ⟨s54, s55, s56, s57, s58, s59, s60, s61, trivial⟩
          rw [HA.out] at ha
          obtain ⟨y1, y2, y3, y4, y5⟩ := hgr
          rw [if_pos (hall 2 (by decide))] at y1
          have HF : Hid (w4.ownsRow w.heap.size 30 1 (.slice a1 0 c1) T.length (T.map fun z => Value.int .u16 z) ∧ Boxed w4 B 67 (.int .u16 h') ∧ Below w0.heap.size w0 w4 ∧ w.heap.size ≤ w4.heap.size) := ⟨y3, y1, y4, y5⟩
          have KH := held_any B h' false w4 (by rw [hz']; rfl) y1
          rw [ha]
          clear ha hkp hgot y1 y2 y4 p56 HA hcalm
          simp only [List.foldl_cons, List.foldl_nil, List.setIfInBounds_toArray, List.set_cons_succ, List.set_cons_zero]
          go_wp2_with (go_at_call 13; refine KH.mono ?_)
          first | rintro e w6 rfl b6 | rintro e w6 ⟨rfl, b6⟩
          have HF6 : Hid (UI rs w0 w B (k + 1) (.slice a1 0 c1) w6) := by
            obtain ⟨q1, q2, q3, q4⟩ := HF.out
            unfold Hid UI
            rw [HTk.out, hhT.out]
            exact ⟨owns_below q1 b6, boxed_below q2 b6, q3.trans (b6.mono q3.size), Nat.le_trans q4 b6.size⟩
          have htd : ((L ++ M).length : Nat) = (fu (sureU (rs.take (k + 1)).flatten)).length := by rw [HTk.out, HM1.out]
          clear b6 KH HF
          subst hz'
          go_wp2
          exact ⟨⟨k + 1, by go_num, by omega, by rw [← htd, List.length_append]; go_num, HF6⟩, by simp [RowKit.intOf]; omega⟩
      · rw [List.concat_eq_append] at hT0
        have hu : 0 ≤ u ∧ u < 65536 := hTm u (by rw [hT0]; simp)
        have hnm : n = T0.length + 1 := by rw [← hlen, hT0]; simp
        obtain ⟨g1, rfl⟩ := hpos (by omega)
        have hcp := owns_cap ho2
        have hcu : w1.cell? ⟨g1, T0.length, none⟩ = some (.int .u16 u) := by
          refine owns_cell ho2 rfl T0.length _ ?_
          rw [hT0]; simp
        have hfr : Rds .u16 w1 (.slice (some ⟨g1, 0, none⟩) T0.length c1) T0 := rds_front (u := u) (by rw [← hT0]; exact ho2)
        have hlU' := hlU_snoc 0 T0 u
        rw [← hT0, hhT.out] at hlU'
        obtain ⟨m, hm⟩ : ∃ m, T0.length = m := ⟨_, rfl⟩
        rw [hm] at hnm hcu hfr
        have hnm2 : (n : Int) - 1 = (m : Int) := by omega
        have hn0 : (0 : Int) < (n : Int) := by omega
        have hmn : (m : Int) < (n : Int) := by omega
        have hmc : m ≤ c1 := by omega
        clear hnm
        by_cases hi1 : 55296 ≤ u ∧ u < 56320
        · have hz' : h' = u := by rw [hlU', if_pos hi1]
          have hne : (u == 0) = false := beq_false_of_ne (by omega)
          have HSU : Hid (sureU T = T0) := by
            unfold Hid sureU
            rw [hhT.out, if_neg (by omega), hT0, List.dropLast_concat]
          have HSR : Hid (Rds .u16 w1 (.slice (some ⟨g1, 0, none⟩) m c1) T0) := hfr
          have hi1a := hi1.1
          have hi1b : u ≤ 56319 := by omega
          have HT0 : Hid (T = T0 ++ [u]) := hT0
          clear hfr hlU' hT0
          have KF := rfrom_any T0 (.slice (some ⟨g1, 0, none⟩) m c1) w1 (by have := sure_le T; rw [HSU.out] at this; omega) HSR.out (fun z hz => hTm z (sure_mem T z (by rw [HSU.out]; exact hz)))
          clear hTm
          go_wp2
          go_simp
          go_wp2_with (go_at_call 30; refine KF.mono ?_)
          first | rintro e w2 x2 rfl o2 b2 | rintro e w2 ⟨x2, rfl, o2, b2⟩
          rw [← HSU.out, HM1.out] at o2
          obtain ⟨wa, wc, rfl, _⟩ := owns_slice o2
          have HG : Hid (Boxed w2 B 67 (.int .u16 h) ∧ w2.ownsRow w1.heap.size 21 1 (.slice wa (L ++ M).length wc) (L ++ M).length ((L ++ M).map fun z => Value.int .i32 z) ∧ w2.ownsRow w.heap.size 30 1 (.slice (some ⟨g1, 0, none⟩) n c1) T.length (T.map fun z => Value.int .u16 z) ∧ Below w0.heap.size w0 w2 ∧ w.heap.size ≤ w2.heap.size) := ⟨boxed_below B1.out b2, o2, by rw [hlen]; exact owns_below HA1.out b2, BL1.out.trans (b2.mono BL1.out.size), Nat.le_trans hws1 b2.size⟩
          clear o2 b2 KF HSR
          go_wp2
          refine wp_keep fun a0 ha0 => ?_
          have hz : a0.tmps.size = 101 := by rw [ha0]; rfl
          have s0 : a0.tmps[0]? = some (.pointer (some ⟨B, 0, none⟩)) := by rw [ha0]; rfl
          have s8 : a0.tmps[8]? = some pv := by rw [ha0]; rfl
          have s11 : a0.tmps[11]? = some (.slice wa (L ++ M).length wc) := by rw [ha0, List.length_append]; rfl
          have s6 : a0.tmps[6]? = some (.int .i64 (L.length : Nat)) := by rw [ha0]; rfl
          have hcalm := fun i hi => gU_calm (B := B) (h := h) (h' := h') (L := L) (M := M) (T := T) (wa := wa) (wc := wc) (bw := w1.heap.size) (ba := w.heap.size) (x1 := .slice (some ⟨g1, 0, none⟩) n c1) (w0 := w0) (l11_stays (B := B) (pv := pv) (L := L) (M := M) (wa := wa) (wc := wc)) i hi
          have HA : Hid (a0 = _) := ha0
          clear ha0
          refine wp_region_turn (gU B h h' L M T wa wc w1.heap.size w.heap.size (.slice (some ⟨g1, 0, none⟩) n c1) w0) (fun _ => nthP (l11 B pv L M wa wc)) 101 hz (by kernel_rfl) (by kernel_rfl) ?start ⟨?o0, ?o1, ?o2, ?o3, ?o4, ?o5, ?o6, ?o7, trivial⟩ ?done
          case start =>
            intro w4 hb4 hs4 s hs
            have G := HG.out
            exact ⟨by rw [if_neg (by rw [hs]; simp)]; exact boxed_below G.1 hb4, owns_below G.2.1 hb4, owns_below G.2.2.1 hb4, G.2.2.2.1.trans (hb4.mono G.2.2.2.1.size), Nat.le_trans G.2.2.2.2 hb4.size⟩
          case o0 =>
            refine FlowOp4.plain (hcalm 0 (by decide)) fun a1 w4 s cx => ?_
            have s0 := cx.keep 0 _ (by kernel_rfl) s0
            refine ⟨wanted_none rfl, fun K hK => ?_⟩
            exact wp_moved _ rfl _ (ev_tmp s0) (hK.out _ _ rfl (Below.refl _ _))
          case o1 =>
            refine FlowOp4.plain (hcalm 1 (by decide)) fun a1 w4 s cx => ?_
            have s8 := cx.keep 8 _ (by kernel_rfl) s8
            refine ⟨wanted_none rfl, fun K hK => ?_⟩
            exact wp_moved _ rfl _ (ev_tmp s8) (hK.out _ _ rfl (Below.refl _ _))
          case o2 =>
            refine FlowOp4.turn fun a2 w4 s cx => ?_
            obtain ⟨v54, s54, p54⟩ := cx.slot 0 54 (by kernel_rfl)
            replace p54 : v54 = .pointer (some ⟨B, 0, none⟩) := p54
            subst p54
            obtain ⟨v55, s55, p55⟩ := cx.slot 1 55 (by kernel_rfl)
            replace p55 : v55 = pv := p55
            subst p55
            obtain ⟨dd, gr, ga, bl, gs⟩ := cx.ground
            rw [if_neg (by rw [cx.new]; simp)] at dd
            refine ⟨wanted_none rfl, fun K hK => ?_⟩
            refine wp_gen_call [(54, .pointer (some ⟨B, 0, none⟩)), (55, v55)] ⟨s54, s55, trivial⟩ (vs := #[.pointer (some ⟨B, 0, none⟩), v55]) (f := 14) (by kernel_rfl) (fun w => by kernel_rfl) ?_
            refine (feed_any h us v55 w0.heap.size B w4 (by omega) HH.out (fun W hW => (HPV.out.below (bl.trans hW)).rds) HUS.out hnb (by omega) dd).mono ?_
            rintro e w5 ⟨v, rfl, pre, hx, _, _, hfu, hke, ho, bx, kb⟩
            rw [List.take_length] at hke
            rw [List.drop_length] at hfu
            obtain rfl : hx = h' := by rw [hke]; exact HHL.out.symm
            obtain rfl : pre = M := by
              have := hfu.symm.trans HMM.out
              exact List.append_cancel_right this
            refine ⟨_, rfl, hK.out v w5 ⟨?_, owns_kb gr (by omega) kb, owns_kb ga (by omega) kb, bl.trans kb.bel, Nat.le_trans gs kb.size⟩ (Rds.of_owns ho) (fun j u hj hu => l11_const (fun q => by rw [q, cx.new] at hj; cases hj) hu)⟩
            rw [if_pos (by simp [mark])]
            exact bx
          case o3 =>
            refine FlowOp4.plain (hcalm 3 (by decide)) fun a1 w4 s cx => ?_
            have s11 := cx.keep 11 _ (by kernel_rfl) s11
            refine ⟨wanted_none rfl, fun K hK => ?_⟩
            exact wp_moved _ rfl _ (ev_tmp s11) (hK.out _ _ rfl (Below.refl _ _))
          case o4 =>
            refine FlowOp4.plain (hcalm 4 (by decide)) fun a1 w4 s cx => ?_
            have s6 := cx.keep 6 _ (by kernel_rfl) s6
            refine ⟨wanted_none rfl, fun K hK => ?_⟩
            exact wp_moved _ rfl _ (ev_tmp s6) (hK.out _ _ rfl (Below.refl _ _))
          case o5 =>
            refine FlowOp4.plain (hcalm 5 (by decide)) fun a1 w4 s cx => ?_
            obtain ⟨v57, s57, p57⟩ := cx.slot 3 57 (by kernel_rfl)
            replace p57 : v57 = .slice wa (L ++ M).length wc := p57
            subst p57
            obtain ⟨v58, s58, p58⟩ := cx.slot 4 58 (by kernel_rfl)
            replace p58 : v58 = .int .i64 (L.length : Nat) := p58
            subst p58
            refine ⟨wanted_none rfl, fun K hK => ?_⟩
            exact wp_gen [(57, .slice wa (L ++ M).length wc), (58, .int .i64 (L.length : Nat))] ⟨s57, s58, trivial⟩ (by kernel_rfl) (slice_op _ 57 58 rfl rfl w4 wa (L ++ M).length wc L.length (by rw [List.length_append]; omega)) (hK.out _ _ rfl (Below.refl _ _))
          case o6 =>
            refine FlowOp4.plain (hcalm 6 (by decide)) fun a1 w4 s cx => ?_
            obtain ⟨v56, s56, p56⟩ := cx.slot 2 56 (by kernel_rfl)
            replace p56 : Rds .i32 w4 v56 M := p56
            obtain ⟨v59, s59, p59⟩ := cx.slot 5 59 (by kernel_rfl)
            replace p59 : v59 = sliced wa L.length (L ++ M).length wc 1 := p59
            subst p59
            have gr := cx.ground.2.1
            refine ⟨wanted_none rfl, fun K hK => ?_⟩
            refine wp_gen_call [(56, v56), (59, sliced wa L.length (L ++ M).length wc 1)] ⟨s56, s59, trivial⟩ (vs := #[v56, sliced wa L.length (L ++ M).length wc 1]) (f := 31) (by kernel_rfl) (fun w => by kernel_rfl) ?_
            refine (same_rds M v56 _ w4 p56 (rds_tail gr) hMl).mono ?_
            rintro e w5 ⟨rfl, hb⟩
            exact ⟨_, rfl, hK.out _ _ rfl hb⟩
          case o7 =>
            refine FlowOp4.plain (hcalm 7 (by decide)) fun a1 w4 s cx => ?_
            obtain ⟨v60, s60, p60⟩ := cx.slot 6 60 (by kernel_rfl)
            replace p60 : v60 = .bool true := p60
            subst p60
            refine ⟨wanted_none rfl, fun K hK => ?_⟩
            exact wp_gen [(60, .bool true)] ⟨s60, trivial⟩ (by kernel_rfl) (v := .bool false) (w' := w4) (by kernel_rfl) (hK.out _ _ rfl (Below.refl _ _))
          case done =>
            intro a w4 s hall hgr hsz hdf hkp hgot
            obtain ⟨v54, s54, p54⟩ := got_slot4 (s := s) (V := fun _ => nthP (l11 B pv L M wa wc)) hgot 0 54 (by kernel_rfl)
            replace p54 : v54 = .pointer (some ⟨B, 0, none⟩) := p54
            subst p54
            obtain ⟨v55, s55, p55⟩ := got_slot4 (s := s) (V := fun _ => nthP (l11 B pv L M wa wc)) hgot 1 55 (by kernel_rfl)
            replace p55 : v55 = pv := p55
            rw [p55] at s55
            obtain ⟨v56, s56, p56⟩ := got_slot4 (s := s) (V := fun _ => nthP (l11 B pv L M wa wc)) hgot 2 56 (by kernel_rfl)
            obtain ⟨v57, s57, p57⟩ := got_slot4 (s := s) (V := fun _ => nthP (l11 B pv L M wa wc)) hgot 3 57 (by kernel_rfl)
            replace p57 : v57 = .slice wa (L ++ M).length wc := p57
            subst p57
            obtain ⟨v58, s58, p58⟩ := got_slot4 (s := s) (V := fun _ => nthP (l11 B pv L M wa wc)) hgot 4 58 (by kernel_rfl)
            replace p58 : v58 = .int .i64 (L.length : Nat) := p58
            subst p58
            obtain ⟨v59, s59, p59⟩ := got_slot4 (s := s) (V := fun _ => nthP (l11 B pv L M wa wc)) hgot 5 59 (by kernel_rfl)
            replace p59 : v59 = sliced wa L.length (L ++ M).length wc 1 := p59
            subst p59
            obtain ⟨v60, s60, p60⟩ := got_slot4 (s := s) (V := fun _ => nthP (l11 B pv L M wa wc)) hgot 6 60 (by kernel_rfl)
            replace p60 : v60 = .bool true := p60
            subst p60
            obtain ⟨v61, s61, p61⟩ := got_slot4 (s := s) (V := fun _ => nthP (l11 B pv L M wa wc)) hgot 7 61 (by kernel_rfl)
            replace p61 : v61 = .bool false := p61
            subst p61
            have ha := act_is a a0 [(54, .pointer (some ⟨B, 0, none⟩)), (55, pv), (56, v56), (57, .slice wa (L ++ M).length wc), (58, .int .i64 (L.length : Nat)), (59, sliced wa L.length (L ++ M).length wc 1), (60, .bool true), (61, .bool false)] (by rw [hsz, hz]) hdf (fun t ht => hkp t (keptAll_of (l := ([(54, .pointer (some ⟨B, 0, none⟩)), (55, pv), (56, v56), (57, .slice wa (L ++ M).length wc), (58, .int .i64 (L.length : Nat)), (59, sliced wa L.length (L ++ M).length wc 1), (60, .bool true), (61, .bool false)] : List (Nat × Value)).map (·.1)) (by kernel_rfl) t ht)) ⟨s54, s55, s56, s57, s58, s59, s60, s61, trivial⟩
            rw [HA.out] at ha
            obtain ⟨y1, y2, y3, y4, y5⟩ := hgr
            rw [if_pos (hall 2 (by decide))] at y1
            have HF : Hid (w4.ownsRow w.heap.size 30 1 (.slice (some ⟨g1, 0, none⟩) n c1) T.length (T.map fun z => Value.int .u16 z) ∧ Boxed w4 B 67 (.int .u16 h') ∧ Below w0.heap.size w0 w4 ∧ w.heap.size ≤ w4.heap.size) := ⟨y3, y1, y4, y5⟩
            have KH := held_any B h' true w4 (by rw [hz']; simp; omega) y1
            rw [ha]
            clear ha hkp hgot y1 y2 y4 p56 HA hcalm
            simp only [List.foldl_cons, List.foldl_nil, List.setIfInBounds_toArray, List.set_cons_succ, List.set_cons_zero]
            go_wp2_with (go_at_call 13; refine KH.mono ?_)
            first | rintro e w6 rfl b6 | rintro e w6 ⟨rfl, b6⟩
            have HF6 : Hid (UI rs w0 w B (k + 1) (.slice (some ⟨g1, 0, none⟩) n c1) w6) := by
              obtain ⟨q1, q2, q3, q4⟩ := HF.out
              unfold Hid UI
              rw [HTk.out, hhT.out]
              exact ⟨owns_below q1 b6, boxed_below q2 b6, q3.trans (b6.mono q3.size), Nat.le_trans q4 b6.size⟩
            have hcu6 : w6.cell? ⟨g1, m, none⟩ = some (.int .u16 u) := by
              obtain ⟨q1, _, _, _⟩ := HF.out
              refine owns_cell (owns_below q1 b6) (by rw [hlen]) m _ ?_
              rw [HT0.out, ← hm]; simp
            have htd : ((L ++ M).length : Nat) = (fu (sureU (rs.take (k + 1)).flatten)).length := by rw [HTk.out, HM1.out]
            clear b6 KH HF
            subst hz'
            go_wp2
            exact ⟨⟨k + 1, by go_num, by omega, by rw [← htd, List.length_append]; go_num, HF6⟩, by simp [RowKit.intOf]; omega⟩
        · have hz' : h' = 0 := by rw [hlU', if_neg hi1]
          have HSU : Hid (sureU T = T) := by
            unfold Hid sureU
            rw [hhT.out, if_pos hz']
          have HSR : Hid (Rds .u16 w1 (.slice (some ⟨g1, 0, none⟩) n c1) T) := by rw [← hlen] at ho2 ⊢; exact Rds.of_owns ho2
          have HT0 : Hid (T = T0 ++ [u]) := hT0
          clear hfr hlU' hT0
          by_cases hi2 : 55296 ≤ u
          · have hi3 : ¬ u ≤ 56319 := by omega
            have KF := rfrom_any T (.slice (some ⟨g1, 0, none⟩) n c1) w1 (by have := sure_le T; rw [HSU.out] at this; omega) HSR.out (fun z hz => hTm z (sure_mem T z (by rw [HSU.out]; exact hz)))
            clear hTm
            go_wp2_with (go_at_call 30; refine KF.mono ?_)
            first | rintro e w2 x2 rfl o2 b2 | rintro e w2 ⟨x2, rfl, o2, b2⟩
            rw [← HSU.out, HM1.out] at o2
            obtain ⟨wa, wc, rfl, _⟩ := owns_slice o2
            have HG : Hid (Boxed w2 B 67 (.int .u16 h) ∧ w2.ownsRow w1.heap.size 21 1 (.slice wa (L ++ M).length wc) (L ++ M).length ((L ++ M).map fun z => Value.int .i32 z) ∧ w2.ownsRow w.heap.size 30 1 (.slice (some ⟨g1, 0, none⟩) n c1) T.length (T.map fun z => Value.int .u16 z) ∧ Below w0.heap.size w0 w2 ∧ w.heap.size ≤ w2.heap.size) := ⟨boxed_below B1.out b2, o2, by rw [hlen]; exact owns_below HA1.out b2, BL1.out.trans (b2.mono BL1.out.size), Nat.le_trans hws1 b2.size⟩
            clear o2 b2 KF HSR
            go_wp2
            refine wp_keep fun a0 ha0 => ?_
            have hz : a0.tmps.size = 101 := by rw [ha0]; rfl
            have s0 : a0.tmps[0]? = some (.pointer (some ⟨B, 0, none⟩)) := by rw [ha0]; rfl
            have s8 : a0.tmps[8]? = some pv := by rw [ha0]; rfl
            have s11 : a0.tmps[11]? = some (.slice wa (L ++ M).length wc) := by rw [ha0, List.length_append]; rfl
            have s6 : a0.tmps[6]? = some (.int .i64 (L.length : Nat)) := by rw [ha0]; rfl
            have hcalm := fun i hi => gU_calm (B := B) (h := h) (h' := h') (L := L) (M := M) (T := T) (wa := wa) (wc := wc) (bw := w1.heap.size) (ba := w.heap.size) (x1 := .slice (some ⟨g1, 0, none⟩) n c1) (w0 := w0) (l11_stays (B := B) (pv := pv) (L := L) (M := M) (wa := wa) (wc := wc)) i hi
            have HA : Hid (a0 = _) := ha0
            clear ha0
            refine wp_region_turn (gU B h h' L M T wa wc w1.heap.size w.heap.size (.slice (some ⟨g1, 0, none⟩) n c1) w0) (fun _ => nthP (l11 B pv L M wa wc)) 101 hz (by kernel_rfl) (by kernel_rfl) ?start ⟨?o0, ?o1, ?o2, ?o3, ?o4, ?o5, ?o6, ?o7, trivial⟩ ?done
            case start =>
              intro w4 hb4 hs4 s hs
              have G := HG.out
              exact ⟨by rw [if_neg (by rw [hs]; simp)]; exact boxed_below G.1 hb4, owns_below G.2.1 hb4, owns_below G.2.2.1 hb4, G.2.2.2.1.trans (hb4.mono G.2.2.2.1.size), Nat.le_trans G.2.2.2.2 hb4.size⟩
            case o0 =>
              refine FlowOp4.plain (hcalm 0 (by decide)) fun a1 w4 s cx => ?_
              have s0 := cx.keep 0 _ (by kernel_rfl) s0
              refine ⟨wanted_none rfl, fun K hK => ?_⟩
              exact wp_moved _ rfl _ (ev_tmp s0) (hK.out _ _ rfl (Below.refl _ _))
            case o1 =>
              refine FlowOp4.plain (hcalm 1 (by decide)) fun a1 w4 s cx => ?_
              have s8 := cx.keep 8 _ (by kernel_rfl) s8
              refine ⟨wanted_none rfl, fun K hK => ?_⟩
              exact wp_moved _ rfl _ (ev_tmp s8) (hK.out _ _ rfl (Below.refl _ _))
            case o2 =>
              refine FlowOp4.turn fun a2 w4 s cx => ?_
              obtain ⟨v54, s54, p54⟩ := cx.slot 0 54 (by kernel_rfl)
              replace p54 : v54 = .pointer (some ⟨B, 0, none⟩) := p54
              subst p54
              obtain ⟨v55, s55, p55⟩ := cx.slot 1 55 (by kernel_rfl)
              replace p55 : v55 = pv := p55
              subst p55
              obtain ⟨dd, gr, ga, bl, gs⟩ := cx.ground
              rw [if_neg (by rw [cx.new]; simp)] at dd
              refine ⟨wanted_none rfl, fun K hK => ?_⟩
              refine wp_gen_call [(54, .pointer (some ⟨B, 0, none⟩)), (55, v55)] ⟨s54, s55, trivial⟩ (vs := #[.pointer (some ⟨B, 0, none⟩), v55]) (f := 14) (by kernel_rfl) (fun w => by kernel_rfl) ?_
              refine (feed_any h us v55 w0.heap.size B w4 (by omega) HH.out (fun W hW => (HPV.out.below (bl.trans hW)).rds) HUS.out hnb (by omega) dd).mono ?_
              rintro e w5 ⟨v, rfl, pre, hx, _, _, hfu, hke, ho, bx, kb⟩
              rw [List.take_length] at hke
              rw [List.drop_length] at hfu
              obtain rfl : hx = h' := by rw [hke]; exact HHL.out.symm
              obtain rfl : pre = M := by
                have := hfu.symm.trans HMM.out
                exact List.append_cancel_right this
              refine ⟨_, rfl, hK.out v w5 ⟨?_, owns_kb gr (by omega) kb, owns_kb ga (by omega) kb, bl.trans kb.bel, Nat.le_trans gs kb.size⟩ (Rds.of_owns ho) (fun j u hj hu => l11_const (fun q => by rw [q, cx.new] at hj; cases hj) hu)⟩
              rw [if_pos (by simp [mark])]
              exact bx
            case o3 =>
              refine FlowOp4.plain (hcalm 3 (by decide)) fun a1 w4 s cx => ?_
              have s11 := cx.keep 11 _ (by kernel_rfl) s11
              refine ⟨wanted_none rfl, fun K hK => ?_⟩
              exact wp_moved _ rfl _ (ev_tmp s11) (hK.out _ _ rfl (Below.refl _ _))
            case o4 =>
              refine FlowOp4.plain (hcalm 4 (by decide)) fun a1 w4 s cx => ?_
              have s6 := cx.keep 6 _ (by kernel_rfl) s6
              refine ⟨wanted_none rfl, fun K hK => ?_⟩
              exact wp_moved _ rfl _ (ev_tmp s6) (hK.out _ _ rfl (Below.refl _ _))
            case o5 =>
              refine FlowOp4.plain (hcalm 5 (by decide)) fun a1 w4 s cx => ?_
              obtain ⟨v57, s57, p57⟩ := cx.slot 3 57 (by kernel_rfl)
              replace p57 : v57 = .slice wa (L ++ M).length wc := p57
              subst p57
              obtain ⟨v58, s58, p58⟩ := cx.slot 4 58 (by kernel_rfl)
              replace p58 : v58 = .int .i64 (L.length : Nat) := p58
              subst p58
              refine ⟨wanted_none rfl, fun K hK => ?_⟩
              exact wp_gen [(57, .slice wa (L ++ M).length wc), (58, .int .i64 (L.length : Nat))] ⟨s57, s58, trivial⟩ (by kernel_rfl) (slice_op _ 57 58 rfl rfl w4 wa (L ++ M).length wc L.length (by rw [List.length_append]; omega)) (hK.out _ _ rfl (Below.refl _ _))
            case o6 =>
              refine FlowOp4.plain (hcalm 6 (by decide)) fun a1 w4 s cx => ?_
              obtain ⟨v56, s56, p56⟩ := cx.slot 2 56 (by kernel_rfl)
              replace p56 : Rds .i32 w4 v56 M := p56
              obtain ⟨v59, s59, p59⟩ := cx.slot 5 59 (by kernel_rfl)
              replace p59 : v59 = sliced wa L.length (L ++ M).length wc 1 := p59
              subst p59
              have gr := cx.ground.2.1
              refine ⟨wanted_none rfl, fun K hK => ?_⟩
              refine wp_gen_call [(56, v56), (59, sliced wa L.length (L ++ M).length wc 1)] ⟨s56, s59, trivial⟩ (vs := #[v56, sliced wa L.length (L ++ M).length wc 1]) (f := 31) (by kernel_rfl) (fun w => by kernel_rfl) ?_
              refine (same_rds M v56 _ w4 p56 (rds_tail gr) hMl).mono ?_
              rintro e w5 ⟨rfl, hb⟩
              exact ⟨_, rfl, hK.out _ _ rfl hb⟩
            case o7 =>
              refine FlowOp4.plain (hcalm 7 (by decide)) fun a1 w4 s cx => ?_
              obtain ⟨v60, s60, p60⟩ := cx.slot 6 60 (by kernel_rfl)
              replace p60 : v60 = .bool true := p60
              subst p60
              refine ⟨wanted_none rfl, fun K hK => ?_⟩
              exact wp_gen [(60, .bool true)] ⟨s60, trivial⟩ (by kernel_rfl) (v := .bool false) (w' := w4) (by kernel_rfl) (hK.out _ _ rfl (Below.refl _ _))
            case done =>
              intro a w4 s hall hgr hsz hdf hkp hgot
              obtain ⟨v54, s54, p54⟩ := got_slot4 (s := s) (V := fun _ => nthP (l11 B pv L M wa wc)) hgot 0 54 (by kernel_rfl)
              replace p54 : v54 = .pointer (some ⟨B, 0, none⟩) := p54
              subst p54
              obtain ⟨v55, s55, p55⟩ := got_slot4 (s := s) (V := fun _ => nthP (l11 B pv L M wa wc)) hgot 1 55 (by kernel_rfl)
              replace p55 : v55 = pv := p55
              rw [p55] at s55
              obtain ⟨v56, s56, p56⟩ := got_slot4 (s := s) (V := fun _ => nthP (l11 B pv L M wa wc)) hgot 2 56 (by kernel_rfl)
              obtain ⟨v57, s57, p57⟩ := got_slot4 (s := s) (V := fun _ => nthP (l11 B pv L M wa wc)) hgot 3 57 (by kernel_rfl)
              replace p57 : v57 = .slice wa (L ++ M).length wc := p57
              subst p57
              obtain ⟨v58, s58, p58⟩ := got_slot4 (s := s) (V := fun _ => nthP (l11 B pv L M wa wc)) hgot 4 58 (by kernel_rfl)
              replace p58 : v58 = .int .i64 (L.length : Nat) := p58
              subst p58
              obtain ⟨v59, s59, p59⟩ := got_slot4 (s := s) (V := fun _ => nthP (l11 B pv L M wa wc)) hgot 5 59 (by kernel_rfl)
              replace p59 : v59 = sliced wa L.length (L ++ M).length wc 1 := p59
              subst p59
              obtain ⟨v60, s60, p60⟩ := got_slot4 (s := s) (V := fun _ => nthP (l11 B pv L M wa wc)) hgot 6 60 (by kernel_rfl)
              replace p60 : v60 = .bool true := p60
              subst p60
              obtain ⟨v61, s61, p61⟩ := got_slot4 (s := s) (V := fun _ => nthP (l11 B pv L M wa wc)) hgot 7 61 (by kernel_rfl)
              replace p61 : v61 = .bool false := p61
              subst p61
              have ha := act_is a a0 [(54, .pointer (some ⟨B, 0, none⟩)), (55, pv), (56, v56), (57, .slice wa (L ++ M).length wc), (58, .int .i64 (L.length : Nat)), (59, sliced wa L.length (L ++ M).length wc 1), (60, .bool true), (61, .bool false)] (by rw [hsz, hz]) hdf (fun t ht => hkp t (keptAll_of (l := ([(54, .pointer (some ⟨B, 0, none⟩)), (55, pv), (56, v56), (57, .slice wa (L ++ M).length wc), (58, .int .i64 (L.length : Nat)), (59, sliced wa L.length (L ++ M).length wc 1), (60, .bool true), (61, .bool false)] : List (Nat × Value)).map (·.1)) (by kernel_rfl) t ht)) ⟨s54, s55, s56, s57, s58, s59, s60, s61, trivial⟩
              rw [HA.out] at ha
              obtain ⟨y1, y2, y3, y4, y5⟩ := hgr
              rw [if_pos (hall 2 (by decide))] at y1
              have HF : Hid (w4.ownsRow w.heap.size 30 1 (.slice (some ⟨g1, 0, none⟩) n c1) T.length (T.map fun z => Value.int .u16 z) ∧ Boxed w4 B 67 (.int .u16 h') ∧ Below w0.heap.size w0 w4 ∧ w.heap.size ≤ w4.heap.size) := ⟨y3, y1, y4, y5⟩
              have KH := held_any B h' false w4 (by rw [hz']; rfl) y1
              rw [ha]
              clear ha hkp hgot y1 y2 y4 p56 HA hcalm
              simp only [List.foldl_cons, List.foldl_nil, List.setIfInBounds_toArray, List.set_cons_succ, List.set_cons_zero]
              go_wp2_with (go_at_call 13; refine KH.mono ?_)
              first | rintro e w6 rfl b6 | rintro e w6 ⟨rfl, b6⟩
              have HF6 : Hid (UI rs w0 w B (k + 1) (.slice (some ⟨g1, 0, none⟩) n c1) w6) := by
                obtain ⟨q1, q2, q3, q4⟩ := HF.out
                unfold Hid UI
                rw [HTk.out, hhT.out]
                exact ⟨owns_below q1 b6, boxed_below q2 b6, q3.trans (b6.mono q3.size), Nat.le_trans q4 b6.size⟩
              have hcu6 : w6.cell? ⟨g1, m, none⟩ = some (.int .u16 u) := by
                obtain ⟨q1, _, _, _⟩ := HF.out
                refine owns_cell (owns_below q1 b6) (by rw [hlen]) m _ ?_
                rw [HT0.out, ← hm]; simp
              have htd : ((L ++ M).length : Nat) = (fu (sureU (rs.take (k + 1)).flatten)).length := by rw [HTk.out, HM1.out]
              clear b6 KH HF
              subst hz'
              go_wp2
              exact ⟨⟨k + 1, by go_num, by omega, by rw [← htd, List.length_append]; go_num, HF6⟩, by simp [RowKit.intOf]; omega⟩
          · have hi3 : ¬ 55296 ≤ u := hi2
            have KF := rfrom_any T (.slice (some ⟨g1, 0, none⟩) n c1) w1 (by have := sure_le T; rw [HSU.out] at this; omega) HSR.out (fun z hz => hTm z (sure_mem T z (by rw [HSU.out]; exact hz)))
            clear hTm
            go_wp2_with (go_at_call 30; refine KF.mono ?_)
            first | rintro e w2 x2 rfl o2 b2 | rintro e w2 ⟨x2, rfl, o2, b2⟩
            rw [← HSU.out, HM1.out] at o2
            obtain ⟨wa, wc, rfl, _⟩ := owns_slice o2
            have HG : Hid (Boxed w2 B 67 (.int .u16 h) ∧ w2.ownsRow w1.heap.size 21 1 (.slice wa (L ++ M).length wc) (L ++ M).length ((L ++ M).map fun z => Value.int .i32 z) ∧ w2.ownsRow w.heap.size 30 1 (.slice (some ⟨g1, 0, none⟩) n c1) T.length (T.map fun z => Value.int .u16 z) ∧ Below w0.heap.size w0 w2 ∧ w.heap.size ≤ w2.heap.size) := ⟨boxed_below B1.out b2, o2, by rw [hlen]; exact owns_below HA1.out b2, BL1.out.trans (b2.mono BL1.out.size), Nat.le_trans hws1 b2.size⟩
            clear o2 b2 KF HSR
            go_wp2
            refine wp_keep fun a0 ha0 => ?_
            have hz : a0.tmps.size = 101 := by rw [ha0]; rfl
            have s0 : a0.tmps[0]? = some (.pointer (some ⟨B, 0, none⟩)) := by rw [ha0]; rfl
            have s8 : a0.tmps[8]? = some pv := by rw [ha0]; rfl
            have s11 : a0.tmps[11]? = some (.slice wa (L ++ M).length wc) := by rw [ha0, List.length_append]; rfl
            have s6 : a0.tmps[6]? = some (.int .i64 (L.length : Nat)) := by rw [ha0]; rfl
            have hcalm := fun i hi => gU_calm (B := B) (h := h) (h' := h') (L := L) (M := M) (T := T) (wa := wa) (wc := wc) (bw := w1.heap.size) (ba := w.heap.size) (x1 := .slice (some ⟨g1, 0, none⟩) n c1) (w0 := w0) (l11_stays (B := B) (pv := pv) (L := L) (M := M) (wa := wa) (wc := wc)) i hi
            have HA : Hid (a0 = _) := ha0
            clear ha0
            refine wp_region_turn (gU B h h' L M T wa wc w1.heap.size w.heap.size (.slice (some ⟨g1, 0, none⟩) n c1) w0) (fun _ => nthP (l11 B pv L M wa wc)) 101 hz (by kernel_rfl) (by kernel_rfl) ?start ⟨?o0, ?o1, ?o2, ?o3, ?o4, ?o5, ?o6, ?o7, trivial⟩ ?done
            case start =>
              intro w4 hb4 hs4 s hs
              have G := HG.out
              exact ⟨by rw [if_neg (by rw [hs]; simp)]; exact boxed_below G.1 hb4, owns_below G.2.1 hb4, owns_below G.2.2.1 hb4, G.2.2.2.1.trans (hb4.mono G.2.2.2.1.size), Nat.le_trans G.2.2.2.2 hb4.size⟩
            case o0 =>
              refine FlowOp4.plain (hcalm 0 (by decide)) fun a1 w4 s cx => ?_
              have s0 := cx.keep 0 _ (by kernel_rfl) s0
              refine ⟨wanted_none rfl, fun K hK => ?_⟩
              exact wp_moved _ rfl _ (ev_tmp s0) (hK.out _ _ rfl (Below.refl _ _))
            case o1 =>
              refine FlowOp4.plain (hcalm 1 (by decide)) fun a1 w4 s cx => ?_
              have s8 := cx.keep 8 _ (by kernel_rfl) s8
              refine ⟨wanted_none rfl, fun K hK => ?_⟩
              exact wp_moved _ rfl _ (ev_tmp s8) (hK.out _ _ rfl (Below.refl _ _))
            case o2 =>
              refine FlowOp4.turn fun a2 w4 s cx => ?_
              obtain ⟨v54, s54, p54⟩ := cx.slot 0 54 (by kernel_rfl)
              replace p54 : v54 = .pointer (some ⟨B, 0, none⟩) := p54
              subst p54
              obtain ⟨v55, s55, p55⟩ := cx.slot 1 55 (by kernel_rfl)
              replace p55 : v55 = pv := p55
              subst p55
              obtain ⟨dd, gr, ga, bl, gs⟩ := cx.ground
              rw [if_neg (by rw [cx.new]; simp)] at dd
              refine ⟨wanted_none rfl, fun K hK => ?_⟩
              refine wp_gen_call [(54, .pointer (some ⟨B, 0, none⟩)), (55, v55)] ⟨s54, s55, trivial⟩ (vs := #[.pointer (some ⟨B, 0, none⟩), v55]) (f := 14) (by kernel_rfl) (fun w => by kernel_rfl) ?_
              refine (feed_any h us v55 w0.heap.size B w4 (by omega) HH.out (fun W hW => (HPV.out.below (bl.trans hW)).rds) HUS.out hnb (by omega) dd).mono ?_
              rintro e w5 ⟨v, rfl, pre, hx, _, _, hfu, hke, ho, bx, kb⟩
              rw [List.take_length] at hke
              rw [List.drop_length] at hfu
              obtain rfl : hx = h' := by rw [hke]; exact HHL.out.symm
              obtain rfl : pre = M := by
                have := hfu.symm.trans HMM.out
                exact List.append_cancel_right this
              refine ⟨_, rfl, hK.out v w5 ⟨?_, owns_kb gr (by omega) kb, owns_kb ga (by omega) kb, bl.trans kb.bel, Nat.le_trans gs kb.size⟩ (Rds.of_owns ho) (fun j u hj hu => l11_const (fun q => by rw [q, cx.new] at hj; cases hj) hu)⟩
              rw [if_pos (by simp [mark])]
              exact bx
            case o3 =>
              refine FlowOp4.plain (hcalm 3 (by decide)) fun a1 w4 s cx => ?_
              have s11 := cx.keep 11 _ (by kernel_rfl) s11
              refine ⟨wanted_none rfl, fun K hK => ?_⟩
              exact wp_moved _ rfl _ (ev_tmp s11) (hK.out _ _ rfl (Below.refl _ _))
            case o4 =>
              refine FlowOp4.plain (hcalm 4 (by decide)) fun a1 w4 s cx => ?_
              have s6 := cx.keep 6 _ (by kernel_rfl) s6
              refine ⟨wanted_none rfl, fun K hK => ?_⟩
              exact wp_moved _ rfl _ (ev_tmp s6) (hK.out _ _ rfl (Below.refl _ _))
            case o5 =>
              refine FlowOp4.plain (hcalm 5 (by decide)) fun a1 w4 s cx => ?_
              obtain ⟨v57, s57, p57⟩ := cx.slot 3 57 (by kernel_rfl)
              replace p57 : v57 = .slice wa (L ++ M).length wc := p57
              subst p57
              obtain ⟨v58, s58, p58⟩ := cx.slot 4 58 (by kernel_rfl)
              replace p58 : v58 = .int .i64 (L.length : Nat) := p58
              subst p58
              refine ⟨wanted_none rfl, fun K hK => ?_⟩
              exact wp_gen [(57, .slice wa (L ++ M).length wc), (58, .int .i64 (L.length : Nat))] ⟨s57, s58, trivial⟩ (by kernel_rfl) (slice_op _ 57 58 rfl rfl w4 wa (L ++ M).length wc L.length (by rw [List.length_append]; omega)) (hK.out _ _ rfl (Below.refl _ _))
            case o6 =>
              refine FlowOp4.plain (hcalm 6 (by decide)) fun a1 w4 s cx => ?_
              obtain ⟨v56, s56, p56⟩ := cx.slot 2 56 (by kernel_rfl)
              replace p56 : Rds .i32 w4 v56 M := p56
              obtain ⟨v59, s59, p59⟩ := cx.slot 5 59 (by kernel_rfl)
              replace p59 : v59 = sliced wa L.length (L ++ M).length wc 1 := p59
              subst p59
              have gr := cx.ground.2.1
              refine ⟨wanted_none rfl, fun K hK => ?_⟩
              refine wp_gen_call [(56, v56), (59, sliced wa L.length (L ++ M).length wc 1)] ⟨s56, s59, trivial⟩ (vs := #[v56, sliced wa L.length (L ++ M).length wc 1]) (f := 31) (by kernel_rfl) (fun w => by kernel_rfl) ?_
              refine (same_rds M v56 _ w4 p56 (rds_tail gr) hMl).mono ?_
              rintro e w5 ⟨rfl, hb⟩
              exact ⟨_, rfl, hK.out _ _ rfl hb⟩
            case o7 =>
              refine FlowOp4.plain (hcalm 7 (by decide)) fun a1 w4 s cx => ?_
              obtain ⟨v60, s60, p60⟩ := cx.slot 6 60 (by kernel_rfl)
              replace p60 : v60 = .bool true := p60
              subst p60
              refine ⟨wanted_none rfl, fun K hK => ?_⟩
              exact wp_gen [(60, .bool true)] ⟨s60, trivial⟩ (by kernel_rfl) (v := .bool false) (w' := w4) (by kernel_rfl) (hK.out _ _ rfl (Below.refl _ _))
            case done =>
              intro a w4 s hall hgr hsz hdf hkp hgot
              obtain ⟨v54, s54, p54⟩ := got_slot4 (s := s) (V := fun _ => nthP (l11 B pv L M wa wc)) hgot 0 54 (by kernel_rfl)
              replace p54 : v54 = .pointer (some ⟨B, 0, none⟩) := p54
              subst p54
              obtain ⟨v55, s55, p55⟩ := got_slot4 (s := s) (V := fun _ => nthP (l11 B pv L M wa wc)) hgot 1 55 (by kernel_rfl)
              replace p55 : v55 = pv := p55
              rw [p55] at s55
              obtain ⟨v56, s56, p56⟩ := got_slot4 (s := s) (V := fun _ => nthP (l11 B pv L M wa wc)) hgot 2 56 (by kernel_rfl)
              obtain ⟨v57, s57, p57⟩ := got_slot4 (s := s) (V := fun _ => nthP (l11 B pv L M wa wc)) hgot 3 57 (by kernel_rfl)
              replace p57 : v57 = .slice wa (L ++ M).length wc := p57
              subst p57
              obtain ⟨v58, s58, p58⟩ := got_slot4 (s := s) (V := fun _ => nthP (l11 B pv L M wa wc)) hgot 4 58 (by kernel_rfl)
              replace p58 : v58 = .int .i64 (L.length : Nat) := p58
              subst p58
              obtain ⟨v59, s59, p59⟩ := got_slot4 (s := s) (V := fun _ => nthP (l11 B pv L M wa wc)) hgot 5 59 (by kernel_rfl)
              replace p59 : v59 = sliced wa L.length (L ++ M).length wc 1 := p59
              subst p59
              obtain ⟨v60, s60, p60⟩ := got_slot4 (s := s) (V := fun _ => nthP (l11 B pv L M wa wc)) hgot 6 60 (by kernel_rfl)
              replace p60 : v60 = .bool true := p60
              subst p60
              obtain ⟨v61, s61, p61⟩ := got_slot4 (s := s) (V := fun _ => nthP (l11 B pv L M wa wc)) hgot 7 61 (by kernel_rfl)
              replace p61 : v61 = .bool false := p61
              subst p61
              have ha := act_is a a0 [(54, .pointer (some ⟨B, 0, none⟩)), (55, pv), (56, v56), (57, .slice wa (L ++ M).length wc), (58, .int .i64 (L.length : Nat)), (59, sliced wa L.length (L ++ M).length wc 1), (60, .bool true), (61, .bool false)] (by rw [hsz, hz]) hdf (fun t ht => hkp t (keptAll_of (l := ([(54, .pointer (some ⟨B, 0, none⟩)), (55, pv), (56, v56), (57, .slice wa (L ++ M).length wc), (58, .int .i64 (L.length : Nat)), (59, sliced wa L.length (L ++ M).length wc 1), (60, .bool true), (61, .bool false)] : List (Nat × Value)).map (·.1)) (by kernel_rfl) t ht)) ⟨s54, s55, s56, s57, s58, s59, s60, s61, trivial⟩
              rw [HA.out] at ha
              obtain ⟨y1, y2, y3, y4, y5⟩ := hgr
              rw [if_pos (hall 2 (by decide))] at y1
              have HF : Hid (w4.ownsRow w.heap.size 30 1 (.slice (some ⟨g1, 0, none⟩) n c1) T.length (T.map fun z => Value.int .u16 z) ∧ Boxed w4 B 67 (.int .u16 h') ∧ Below w0.heap.size w0 w4 ∧ w.heap.size ≤ w4.heap.size) := ⟨y3, y1, y4, y5⟩
              have KH := held_any B h' false w4 (by rw [hz']; rfl) y1
              rw [ha]
              clear ha hkp hgot y1 y2 y4 p56 HA hcalm
              simp only [List.foldl_cons, List.foldl_nil, List.setIfInBounds_toArray, List.set_cons_succ, List.set_cons_zero]
              go_wp2_with (go_at_call 13; refine KH.mono ?_)
              first | rintro e w6 rfl b6 | rintro e w6 ⟨rfl, b6⟩
              have HF6 : Hid (UI rs w0 w B (k + 1) (.slice (some ⟨g1, 0, none⟩) n c1) w6) := by
                obtain ⟨q1, q2, q3, q4⟩ := HF.out
                unfold Hid UI
                rw [HTk.out, hhT.out]
                exact ⟨owns_below q1 b6, boxed_below q2 b6, q3.trans (b6.mono q3.size), Nat.le_trans q4 b6.size⟩
              have hcu6 : w6.cell? ⟨g1, m, none⟩ = some (.int .u16 u) := by
                obtain ⟨q1, _, _, _⟩ := HF.out
                refine owns_cell (owns_below q1 b6) (by rw [hlen]) m _ ?_
                rw [HT0.out, ← hm]; simp
              have htd : ((L ++ M).length : Nat) = (fu (sureU (rs.take (k + 1)).flatten)).length := by rw [HTk.out, HM1.out]
              clear b6 KH HF
              subst hz'
              go_wp2
              exact ⟨⟨k + 1, by go_num, by omega, by rw [← htd, List.length_append]; go_num, HF6⟩, by simp [RowKit.intOf]; omega⟩
    · have l1i : ¬ (k : Int) < (rs.length : Int) := by omega
      have ek : k = rs.length := by omega
      obtain ⟨ho, hbx, hbl, hws⟩ := HI.out
      rw [ek, List.take_length] at ho hbx ⊢
      obtain ⟨T, hT⟩ : ∃ T, rs.flatten = T := ⟨_, rfl⟩
      rw [hT] at ho hbx t1 HU ⊢
      have e2 := fu_two T []
      rw [List.append_nil] at e2
      have hh : hlU 0 T = 0 ∨ (55296 ≤ hlU 0 T ∧ hlU 0 T < 56320) := by
        by_cases c : hlU 0 T = 0
        · exact .inl c
        · exact .inr (hlU_high T c)
      have KE := end_any B w0.heap.size (hlU 0 T) wr hnb hh hbx
      obtain ⟨L, hL⟩ : ∃ L, fu (sureU T) = L := ⟨_, rfl⟩
      obtain ⟨M, hM⟩ : ∃ M, fuH (hlU 0 T) [] = M := ⟨_, rfl⟩
      rw [hL, hM] at e2
      rw [hM] at KE
      rw [hL]
      have HE : Hid (fu T = L ++ M) := e2
      have hl2 : (L ++ M).length ≤ 1048576 := by rw [← e2]; exact Nat.le_trans (fu_len T) t1
      have HO : Hid (wr.ownsRow w.heap.size 30 1 u5 T.length (T.map fun z => Value.int .u16 z)) := ho
      have HBL : Hid (Below w0.heap.size w0 wr) := hbl
      clear e2 hh hbx ho hbl hL hM hT HI H1 ek
      go_wp2_with (go_at_call 15; refine KE.mono ?_)
      first | rintro e w1 v1 rfl r1 d1 kb1 | rintro e w1 ⟨v1, rfl, r1, d1, kb1⟩
      have o1 := owns_kb HO.out (by omega) kb1
      have KF := rfrom_any T u5 w1 (by omega) (Rds.of_owns o1) HU.out
      have R1 : Hid (Rds .i32 w1 v1 M) := r1
      have D1 : Hid (Boxed w1 B 67 (.int .u16 0)) := d1
      have BL1 : Hid (Below w0.heap.size w0 w1) := HBL.out.trans kb1.bel
      clear r1 d1 kb1 o1 KE
      go_wp2_with (go_at_call 30; refine KF.mono ?_)
      first | rintro e w2 x2 rfl o2 b2 | rintro e w2 ⟨x2, rfl, o2, b2⟩
      rw [HE.out] at o2
      obtain ⟨wa, wc, rfl, _⟩ := owns_slice o2
      have KS := same_rds M v1 _ w2 (R1.out.below b2) (rds_tail o2) (by rw [List.length_append] at hl2; omega)
      have D2 : Hid (Boxed w2 B 67 (.int .u16 0)) := boxed_below D1.out b2
      have BL2 : Hid (Below w0.heap.size w0 w2) := BL1.out.trans (b2.mono BL1.out.size)
      have hLl : L.length ≤ (L ++ M).length := by rw [List.length_append]; omega
      obtain ⟨nn, hnn⟩ : ∃ nn, nn = (L ++ M).length := ⟨_, rfl⟩
      rw [← hnn] at KS hLl ⊢
      obtain ⟨sv, hsv⟩ : ∃ sv, sliced wa L.length nn wc 1 = sv := ⟨_, rfl⟩
      rw [hsv] at KS
      have HSV : Hid (sliced wa L.length nn wc 1 = sv) := hsv
      clear o2 b2 KF R1 D1 BL1 hnn hl2 hsv
      go_wp2_with (first | (go_at_call 31; refine KS.mono ?_) | (refine wpList_tail rfl _ _ rfl wa nn wc L.length rfl rfl hLl sv HSV.out ?_))
      first | rintro e w3 rfl b3 | rintro e w3 ⟨rfl, b3⟩
      have D3 : Hid (Boxed w3 B 67 (.int .u16 0)) := boxed_below D2.out b3
      have BL3 : Hid (Below w0.heap.size w0 w3) := BL2.out.trans (b3.mono BL2.out.size)
      clear b3 KS D2 BL2
      go_wp2
      go_ret
      exact ⟨rfl, D3.out, BL3.out⟩
end Go.Proofs.YtabofadjnbpjkacDoor
