/-
  The contract of the statements' fed: a decoder that is as new, handed texts one by one, tells and holds what the document says, and is as new behind it. Conditions: the list has at most about a million texts, and they have together at most about a million bytes; the library's two tables hold what their text lays.
-/
import Derived.Test.YtabofadjnbpjkabDoorCa
import Derived.Test.YtabofadjnbpjkabDoorEnc
import Derived.Test.YtabofadjnbpjkabDoorTn
namespace Go.Proofs.YtabofadjnbpjkabDoor
open Go.RowKit Go.Lib
theorem run_tail (w : World) (a : Option Addr) (len cap k : Nat) (hk : k ≤ len) : (Instr.sliceAt 23 (.slice a len cap) (some (.int .i64 k)) none none).run Tryd.prog w = .ok (sliced a k len cap 1) w := by
  have hu : Tryd.prog.underlying 23 = some (.slice (Tryd.prog.elem 23)) := by kernel_rfl
  have hs : (sizeOf (Tryd.prog.elem 23)).run Tryd.prog w = .ok 1 w := by kernel_rfl
  rw [run_sliceAt_slice w 23 _ _ _ _ hu, run_slice_l w 23 a len cap hu .i64 k (by omega) (by omega), hs]
  simp
/-- The end of a list reads as the end of its numbers. -/
theorem rds_tail {W : World} {b : Nat} {a : Option Addr} {cap : Nat} {L M : List Int} (h : W.ownsRow b 21 1 (.slice a (L ++ M).length cap) (L ++ M).length (intsC (L ++ M))) : Rds .i32 W (sliced a L.length (L ++ M).length cap 1) M := by
  unfold sliced
  by_cases hM : M = []
  · subst hM
    refine ⟨_, _, by rw [List.append_nil, Nat.sub_self]; rfl, fun h => by simp at h⟩
  · have hlen : 0 < M.length := List.length_pos_iff.2 hM
    have hl : (L ++ M).length = L.length + M.length := List.length_append
    obtain ⟨h1, ⟨h2, h0⟩ | ⟨g, cap', cur, h2, hb, hg, hc, hr⟩⟩ := h
    · omega
    · have e := h2
      injection e with e1 e2 e3
      subst e1 e3
      rw [if_neg (by omega)]
      refine ⟨_, _, by rw [show (L ++ M).length - L.length = M.length by omega], fun _ => ⟨g, L.length, ?_, fun j hj => ?_⟩⟩
      · show some ((⟨g, 0, none⟩ : Addr).add (L.length * 1)) = _
        unfold Addr.add
        split <;> simp_all
      · refine owns_cell (W := W) (b := b) (e := 21) (size := 1) (n := (L ++ M).length) (v := .slice (some ⟨g, 0, none⟩) (L ++ M).length cap) (xs := intsC (L ++ M)) ⟨h1, .inr ⟨g, cap, cur, h2, hb, hg, hc, hr⟩⟩ rfl (L.length + j) _ ?_
        unfold intsC
        rw [List.getElem?_map, List.getElem?_append_right (by omega), show L.length + j - L.length = j by omega]
        simp [List.getD, List.getElem?_eq_getElem hj]
theorem intsC_is (zs : List Int) : (zs.map fun z => Value.int .i32 z) = intsC zs := rfl
/-- An act from what its slots hold. -/
theorem act_is (a a0 : Act) (l : List (Nat × Value)) (hsz : a.tmps.size = a0.tmps.size) (hd : a.defers = a0.defers) (hk : ∀ t, (l.map (·.1)).contains t = false → a.tmps[t]? = a0.tmps[t]?) (hg : AllIn a l) : a = { tmps := l.foldl (fun ts p => ts.setIfInBounds p.1 p.2) a0.tmps, defers := a0.defers } := by
  have key : ∀ (l : List (Nat × Value)) (ts : Array Value), AllIn a l → ts.size = a.tmps.size → (∀ t, (l.map (·.1)).contains t = false → a.tmps[t]? = ts[t]?) → a.tmps = l.foldl (fun ts p => ts.setIfInBounds p.1 p.2) ts := by
    intro l
    induction l with
    | nil =>
      intro ts _ hs hk
      exact Array.ext_getElem? fun t => hk t rfl
    | cons p l ih =>
      intro ts hg hs hk
      refine ih (ts.setIfInBounds p.1 p.2) hg.2 (by simpa using hs) fun t ht => ?_
      by_cases e : p.1 = t
      · subst e
        have hl : p.1 < a.tmps.size := (Array.getElem?_eq_some_iff.1 hg.1).1
        rw [hg.1]
        simp [hs, hl]
      · rw [Array.getElem?_setIfInBounds_ne e]
        refine hk t ?_
        rw [List.map_cons, List.contains_cons, ht]
        simp [Ne.symm e]
  cases a with
  | mk ts df =>
    simp only at hd
    rw [hd]
    have := key l a0.tmps hg hsz.symm hk
    simp only at this
    rw [this]
theorem keptAll_of {ops : Array Oper} {l : List Nat} (h : (ops.all fun o => match o.dst with | some t => l.contains t | none => true) = true) (t : Nat) (ht : l.contains t = false) : keptAll ops t = true := by
  simp only [keptAll, Array.all_eq_true_iff_forall_mem] at h ⊢
  intro o ho
  have := h o ho
  cases hd : o.dst with
  | none => rfl
  | some d =>
    rw [hd] at this
    simp only at this
    have hne : d ≠ t := fun e => by rw [e, ht] at this; cases this
    simpa using hne
/-- What is said of the slots of the region behind each text. -/
def l8 (b : Nat) (P J : ByteArray) (L M : List Int) (wa : Option Addr) (wc : Nat) : List (Value → World → Prop) :=
  [isV (.pointer (some ⟨b, 0, none⟩)), isV (.string P), fun v w => RdsA w v M, isV (.slice wa (L ++ M).length wc), isV (.int .i64 (L.length : Nat)), isV (sliced wa L.length (L ++ M).length wc 1), isV (.bool true), isV (.bool false), isV (.bool false), isV (.pointer (some ⟨b, 0, none⟩)), isV (.string J), isV (.string J), isV (.bool false), isV (.bool false)]
theorem l8_const {b : Nat} {P J : ByteArray} {L M : List Int} {wa : Option Addr} {wc : Nat} {j : Nat} {u : Value} {w w' : World} (hj : j ≠ 2) (h : nthP (l8 b P J L M wa wc) j u w) : nthP (l8 b P J L M wa wc) j u w' := by
  match j, hj, h with
  | 0, _, h => exact h
  | 1, _, h => exact h
  | 2, hj, h => exact absurd rfl hj
  | 3, _, h => exact h
  | 4, _, h => exact h
  | 5, _, h => exact h
  | 6, _, h => exact h
  | 7, _, h => exact h
  | 8, _, h => exact h
  | 9, _, h => exact h
  | 10, _, h => exact h
  | 11, _, h => exact h
  | 12, _, h => exact h
  | 13, _, h => exact h
  | m + 14, _, _ => exact trivial
theorem l8_stays {b : Nat} {P J : ByteArray} {L M : List Int} {wa : Option Addr} {wc : Nat} : AllP Stays (l8 b P J L M wa wc) := by
  refine ⟨Stays.isV, Stays.isV, ?_, Stays.isV, Stays.isV, Stays.isV, Stays.isV, Stays.isV, Stays.isV, Stays.isV, Stays.isV, Stays.isV, Stays.isV, Stays.isV, trivial⟩
  exact fun _ _ _ h hb => h.below hb
/-- What is said of the slots of the last region. -/
def l13 (b : Nat) (L M : List Int) (wa : Option Addr) (wc : Nat) : List (Value → World → Prop) :=
  [isV (.pointer (some ⟨b, 0, none⟩)), fun v w => RdsA w v M, isV (.slice wa (L ++ M).length wc), isV (.int .i64 (L.length : Nat)), isV (sliced wa L.length (L ++ M).length wc 1), isV (.bool true), isV (.bool true), isV (.pointer (some ⟨b, 0, none⟩)), isV (.string ⟨#[]⟩), isV (.bool true), isV (.bool true), isV (.bool true)]
theorem l13_const {b : Nat} {L M : List Int} {wa : Option Addr} {wc : Nat} {j : Nat} {u : Value} {w w' : World} (hj : j ≠ 1) (h : nthP (l13 b L M wa wc) j u w) : nthP (l13 b L M wa wc) j u w' := by
  match j, hj, h with
  | 0, _, h => exact h
  | 1, hj, h => exact absurd rfl hj
  | 2, _, h => exact h
  | 3, _, h => exact h
  | 4, _, h => exact h
  | 5, _, h => exact h
  | 6, _, h => exact h
  | 7, _, h => exact h
  | 8, _, h => exact h
  | 9, _, h => exact h
  | 10, _, h => exact h
  | 11, _, h => exact h
  | m + 12, _, _ => exact trivial
theorem l13_stays {b : Nat} {L M : List Int} {wa : Option Addr} {wc : Nat} : AllP Stays (l13 b L M wa wc) := by
  refine ⟨Stays.isV, ?_, Stays.isV, Stays.isV, Stays.isV, Stays.isV, Stays.isV, Stays.isV, Stays.isV, Stays.isV, Stays.isV, Stays.isV, trivial⟩
  exact fun _ _ _ h hb => h.below hb
theorem slice_op (o : Oper) (t u : Nat) (ho : o.op = .slice 23 (.tmp t) (some (.tmp u)) none none) (hne : (u == t) = false) (w : World) (a : Option Addr) (len cap k : Nat) (hk : k ≤ len) : (execOp (rho [(t, .slice a len cap), (u, .int .i64 (k : Nat))]) o).run Tryd.prog w = .ok (.value (sliced a k len cap 1)) w := by
  have e1 : rho [(t, .slice a len cap), (u, .int .i64 (k : Nat))] (.tmp t) = .slice a len cap := by simp [rho]
  have e2 : rho [(t, .slice a len cap), (u, .int .i64 (k : Nat))] (.tmp u) = .int .i64 (k : Nat) := by simp [rho, List.lookup, hne]
  unfold execOp
  simp only [ho, e1, e2, Option.map_some, Option.map_none, Sem.run_bind, run_tail w a len cap k hk, Result.andThen_ok, Sem.run_pure]
theorem str_ne (A : ByteArray) (t u : Nat) (o : Oper) (ho : o.op = .binOp .neq 9 (.tmp t) (.tmp u) 9) (hne : (u == t) = false) (w : World) : (execOp (rho [(t, .string A), (u, .string A)]) o).run Tryd.prog w = .ok (.value (.bool false)) w := by
  have e1 : rho [(t, .string A), (u, .string A)] (.tmp t) = .string A := by simp [rho]
  have e2 : rho [(t, .string A), (u, .string A)] (.tmp u) = .string A := by simp [rho, List.lookup, hne]
  have h1 : (eqGuard .neq 9 (.tmp t) (.tmp u) (.string A) (.string A)).run Tryd.prog w = .ok () w := by kernel_rfl
  have h2 : (binOp .neq 9 (.string A) (.string A)).run Tryd.prog w = .ok (.bool false) w := by
    simp [go_sem]
  unfold execOp
  simp only [ho, e1, e2, Sem.run_bind, h1, h2, Result.andThen_ok, Sem.run_pure]
theorem wp_keep {P : Program} {c : Code} {Q : Exit → Act → World → Prop} {a : Act} {w : World} (h : ∀ a0 : Act, a0 = a → c.wp P Q a0 w) : c.wp P Q a w := h a rfl
/-- What is said of memory: the decoder ahead of and behind its turn, the document's list, what was there. -/
def gT (i0 b : Nat) (H J : ByteArray) (L M : List Int) (wa : Option Addr) (wc base : Nat) (w0 : World) : (Nat → Bool) → World → Prop :=
  fun s w => (if s i0 = true then DecAt w b J else DecAt w b H) ∧ w.ownsRow base 21 1 (.slice wa (L ++ M).length wc) (L ++ M).length (intsC (L ++ M)) ∧ Below w0.heap.size w0 w
theorem gT_calm {i0 b : Nat} {H J : ByteArray} {L M : List Int} {wa : Option Addr} {wc base : Nat} {w0 : World} {l : List (Value → World → Prop)} (hl : AllP Stays l) (i : Nat) (hi : i ≠ i0) : Calm (gT i0 b H J L M wa wc base w0) (fun _ => nthP l) i := by
  refine ⟨fun s w w' _ h hb => ?_, fun s j u w w' _ _ hu hb => nthP_stays hl j u w w' hu hb⟩
  obtain ⟨h1, h2, h3⟩ := h
  have e : mark s i i0 = s i0 := if_neg (Ne.symm hi)
  refine ⟨?_, owns_below h2 hb, h3.trans (hb.mono h3.size)⟩
  rw [e]
  by_cases c : s i0 = true
  · rw [if_pos c] at h1 ⊢; exact h1.below hb
  · rw [if_neg c] at h1 ⊢; exact h1.below hb
set_option maxRecDepth 100000 in
set_option maxHeartbeats 4000000 in
theorem fed_any (ss : List ByteArray) (v : Value) (b : Nat) (w0 w : World) (hR : StrsA w0 v ss) (n1 : ss.length ≤ 1048576) (t1 : tot ss ≤ 1048576) (hB : Below w0.heap.size w0 w) (hnb : w0.heap.size ≤ b) (d : DecAt w b ⟨#[]⟩) (hT : Utf8Tabs 0 1 w0) (hg : 2 ≤ w0.heap.size) :
    Calls Tryd.prog 17 #[.pointer (some ⟨b, 0, none⟩), v] w fun e w' => e = .returned (.bool true) ∧ DecAt w' b ⟨#[]⟩ ∧ Below w0.heap.size w0 w' := by
  obtain ⟨a1, c1, rfl, r1⟩ := hR
  have H1 : Hid (StrsA w0 (.slice a1 ss.length c1) ss) := ⟨a1, c1, rfl, r1⟩
  have TB : Hid (∀ W, Below w0.heap.size w0 W → Utf8Tabs 0 1 W) := fun W hb => tabs_below hT (by omega) hb
  have H0 : Hid (DecAt w b (hd (cat (ss.take 0))) ∧ Below w0.heap.size w0 w) := by
    have e : cat (ss.take 0) = ⟨#[]⟩ := by rw [List.take_zero]; rfl
    unfold Hid
    rw [e, show hd ⟨#[]⟩ = ⟨#[]⟩ by decide]
    exact ⟨d, hB⟩
  have e0 : (sn (cat (ss.take 0))).length = 0 := by rw [List.take_zero]; decide
  clear r1 hT d hB
  go_enter Tryd.func17, Tryd.ntmps17
  go_wp2
  go_loopw [5, 6, 14] (fun p x i wr => ∃ k : Nat, i = .int .i64 k ∧ k ≤ ss.length ∧ p = .string (cat (ss.take k)) ∧ x = .int .i64 ((sn (cat (ss.take k))).length : Nat) ∧ Hid (DecAt wr b (hd (cat (ss.take k))) ∧ Below w0.heap.size w0 wr)) (fun _ _ i _ => ss.length - (RowKit.intOf i).toNat)
  case atStart => exact ⟨0, rfl, Nat.zero_le _, rfl, by rw [e0]; rfl, H0⟩
  case round =>
    clear H0 e0
    obtain ⟨k, rfl, hk, rfl, rfl, HI⟩ := hrel
    have hwz := HI.out.2.size
    by_cases l1 : k < ss.length
    · have l1i : (k : Int) < (ss.length : Int) := by omega
      obtain ⟨g1, o1, P, C, H, T, rfl, eC, eH, eT, eN, eS, eD, p1, p2, p3, p4, p5, p6, cl1⟩ := one_more ss k w0 a1 c1 H1.out l1 t1
      rw [eC, eH] at HI
      rw [eC]
      have hk1 := cl1 wr HI.out.2
      have q1 : ¬ 9223372036854775807 < C.size + P.size := by omega
      have kh := rheld_any T wr (by omega)
      have HE : Hid (cat (ss.take (k + 1)) = T ∧ sn T = sn C ++ sn (H ++ P) ∧ hd T = hd (H ++ P)) := ⟨eN, eS, eD⟩
      clear cl1 eN eS eD eC eH
      go_wp2_with (go_at_call 35; refine kh.mono ?_)
      rintro e w2 ⟨rfl, b2⟩
      have B2 : Hid (Below w0.heap.size w0 w2) := HI.out.2.trans (b2.mono hwz)
      have D2 : Hid (DecAt w2 b H) := HI.out.1.below b2
      have hcs := ct_le T
      have hzs := hd_size T
      have hss := su_size T
      have kd := rdecode_any (su T) w2 (by omega)
      rw [runes_nums, nums_su] at kd
      have el : (poss (su T)).length = (sn T).length := by rw [← nums_su]; unfold nums; rw [List.length_map]
      rw [el] at kd
      have esu : T.extract 0 (T.size - (hd T).size) = su T := by unfold su; rw [hzs, show T.size - (T.size - ct T) = ct T by omega]
      have g1' : (0 : Int) ≤ (T.size : Int) - ((hd T).size : Int) := by omega
      have g2' : (T.size : Int) - ((hd T).size : Int) ≤ (T.size : Int) := by omega
      have g3' : ((T.size : Int) - ((hd T).size : Int)).toNat = T.size - (hd T).size := by omega
      obtain ⟨HT, hHT⟩ : ∃ HT, hd T = HT := ⟨_, rfl⟩
      obtain ⟨ST, hST⟩ : ∃ HT, su T = HT := ⟨_, rfl⟩
      have HHT : Hid (hd T = HT) := hHT
      rw [hHT] at esu g1' g2' g3' HE ⊢
      rw [hST] at esu kd
      clear hk1 HI b2 kh hcs hzs hss el hHT hST
      go_wp2_with (go_at_call 21; refine kd.mono ?_)
      rintro e w3 ⟨v3, rfl, ho, b3⟩
      obtain ⟨wa, wc, rfl, _⟩ := owns_slice ho
      rw [intsC_is] at ho
      rw [HE.out.2.1] at ho ⊢
      obtain ⟨M, hM⟩ : ∃ M, sn (H ++ P) = M := ⟨_, rfl⟩
      obtain ⟨L, hL⟩ : ∃ L, sn C = L := ⟨_, rfl⟩
      have hJ : hd (H ++ P) = HT := HE.out.2.2.symm
      have HN : Hid (cat (ss.take (k + 1)) = T ∧ sn T = L ++ M) := ⟨HE.out.1, by rw [HE.out.2.1, hM, hL]⟩
      rw [hM, hL] at ho ⊢
      rw [hM] at p5; rw [hL] at p4
      have hMl : M.length ≤ 140737488355328 := by omega
      have hB3 : Below w0.heap.size w0 w3 := B2.out.trans (b3.mono B2.out.size)
      have D3 := D2.out.below b3
      have HMm : Hid (sn (H ++ P) = M ∧ hd (H ++ P) = HT) := ⟨hM, hJ⟩
      clear hM hL hJ
      go_wp2
      have hT := TB.out w0 (Below.refl _ _)
      have hM := HMm.out.1
      have hJ := HMm.out.2
      refine wp_keep fun a0 ha0 => ?_
      have hz : a0.tmps.size = 61 := by rw [ha0]; rfl
      have s0 : a0.tmps[0]? = some (.pointer (some ⟨b, 0, none⟩)) := by rw [ha0]; rfl
      have s8 : a0.tmps[8]? = some (.string P) := by rw [ha0]; rfl
      have s10 : a0.tmps[10]? = some (.slice wa (L ++ M).length wc) := by rw [ha0, List.length_append]; rfl
      have s6 : a0.tmps[6]? = some (.int .i64 (L.length : Nat)) := by rw [ha0]; rfl
      have s9 : a0.tmps[9]? = some (.string HT) := by rw [ha0]; rfl
      obtain ⟨J, hJJ⟩ : ∃ J, HT = J := ⟨_, rfl⟩
      rw [hJJ] at hJ s9
      have hcalm := fun i hi => gT_calm (i0 := 2) (b := b) (H := H) (J := J) (L := L) (M := M) (wa := wa) (wc := wc) (base := w2.heap.size) (w0 := w0) (l8_stays (b := b) (P := P) (J := J) (L := L) (M := M) (wa := wa) (wc := wc)) i hi
      have HA : Hid (a0 = _) := ha0
      clear ha0
      refine wp_region_turn (gT 2 b H J L M wa wc w2.heap.size w0) (fun _ => nthP (l8 b P J L M wa wc)) 61 hz (by kernel_rfl) (by kernel_rfl) ?start ⟨?o0, ?o1, ?o2, ?o3, ?o4, ?o5, ?o6, ?o7, ?o8, ?o9, ?o10, ?o11, ?o12, ?o13, trivial⟩ ?done
      case start =>
        intro w4 hb4 hs4 s hs
        exact ⟨by rw [if_neg (by rw [hs]; simp)]; exact D3.below hb4, owns_below ho hb4, hB3.trans (hb4.mono hB3.size)⟩
      case o0 =>
        refine FlowOp4.plain (hcalm 0 (by decide)) fun a1 w4 s cx => ?_
        have s0 := cx.keep 0 _ (by kernel_rfl) s0
        refine ⟨wanted_none rfl, fun K hK => ?_⟩
        exact wp_moved _ rfl _ (ev_tmp s0) (hK.out _ _ rfl (Below.refl _ _))
      case o1 =>
        refine FlowOp4.plain (hcalm 1 (by decide)) fun a1 w4 s cx => ?_
        have s8 := cx.keep 8 _ (by kernel_rfl) s8
        refine ⟨wanted_none rfl, fun K hK => ?_⟩
        exact wp_moved _ rfl _ (ev_tmp s8) (hK.out _ _ rfl (Below.refl _ _))
      case o2 =>
        refine FlowOp4.turn fun a1 w4 s cx => ?_
        obtain ⟨v31, s31, p31⟩ := cx.slot 0 31 (by kernel_rfl)
        replace p31 : v31 = .pointer (some ⟨b, 0, none⟩) := p31
        subst p31
        obtain ⟨v32, s32, p32⟩ := cx.slot 1 32 (by kernel_rfl)
        replace p32 : v32 = .string P := p32
        subst p32
        obtain ⟨dd, gr, bl⟩ := cx.ground
        rw [if_neg (by rw [cx.new]; simp)] at dd
        have hz4 := bl.size
        refine ⟨wanted_none rfl, fun K hK => ?_⟩
        refine wp_gen_call [(31, .pointer (some ⟨b, 0, none⟩)), (32, .string P)] ⟨s31, s32, trivial⟩ (vs := #[.pointer (some ⟨b, 0, none⟩), .string P]) (f := 18) (by kernel_rfl) (fun w => by kernel_rfl) ?_
        refine (feed_any b H P w4 (by omega) dd (tabs_below hT (by omega) bl) (by omega) (by omega)).mono ?_
        rintro e w5 ⟨v, rfl, ho, d5, g5⟩
        rw [hM] at ho
        rw [hJ] at d5
        refine ⟨_, rfl, hK.out v w5 ⟨?_, gr.kept g5 (.inr (row_not gr dd)), bl.grown g5 (by omega) (fun j hj => by cases hj; exact hnb)⟩ (RdsA.of_owns ho) (fun j u hj hu => l8_const (fun q => by rw [q, cx.new] at hj; cases hj) hu)⟩
        rw [if_pos (by simp [mark])]
        exact d5
      case o3 =>
        refine FlowOp4.plain (hcalm 3 (by decide)) fun a1 w4 s cx => ?_
        have s10 := cx.keep 10 _ (by kernel_rfl) s10
        refine ⟨wanted_none rfl, fun K hK => ?_⟩
        exact wp_moved _ rfl _ (ev_tmp s10) (hK.out _ _ rfl (Below.refl _ _))
      case o4 =>
        refine FlowOp4.plain (hcalm 4 (by decide)) fun a1 w4 s cx => ?_
        have s6 := cx.keep 6 _ (by kernel_rfl) s6
        refine ⟨wanted_none rfl, fun K hK => ?_⟩
        exact wp_moved _ rfl _ (ev_tmp s6) (hK.out _ _ rfl (Below.refl _ _))
      case o5 =>
        refine FlowOp4.plain (hcalm 5 (by decide)) fun a1 w4 s cx => ?_
        obtain ⟨v34, s34, p34⟩ := cx.slot 3 34 (by kernel_rfl)
        replace p34 : v34 = .slice wa (L ++ M).length wc := p34
        subst p34
        obtain ⟨v35, s35, p35⟩ := cx.slot 4 35 (by kernel_rfl)
        replace p35 : v35 = .int .i64 (L.length : Nat) := p35
        subst p35
        refine ⟨wanted_none rfl, fun K hK => ?_⟩
        exact wp_gen [(34, .slice wa (L ++ M).length wc), (35, .int .i64 (L.length : Nat))] ⟨s34, s35, trivial⟩ (by kernel_rfl) (slice_op _ 34 35 rfl rfl w4 wa (L ++ M).length wc L.length (by rw [List.length_append]; omega)) (hK.out _ _ rfl (Below.refl _ _))
      case o6 =>
        refine FlowOp4.plain (hcalm 6 (by decide)) fun a1 w4 s cx => ?_
        obtain ⟨v33, s33, p33⟩ := cx.slot 2 33 (by kernel_rfl)
        replace p33 : RdsA w4 v33 M := p33
        obtain ⟨v36, s36, p36⟩ := cx.slot 5 36 (by kernel_rfl)
        replace p36 : v36 = sliced wa L.length (L ++ M).length wc 1 := p36
        subst p36
        have gr := cx.ground.2.1
        refine ⟨wanted_none rfl, fun K hK => ?_⟩
        refine wp_gen_call [(33, v33), (36, sliced wa L.length (L ++ M).length wc 1)] ⟨s33, s36, trivial⟩ (vs := #[v33, sliced wa L.length (L ++ M).length wc 1]) (f := 13) (by kernel_rfl) (fun w => by kernel_rfl) ?_
        refine (same_rds M v33 _ w4 p33.rds (rds_tail gr) hMl).mono ?_
        rintro e w5 ⟨rfl, hb⟩
        exact ⟨_, rfl, hK.out _ _ rfl hb⟩
      case o7 =>
        refine FlowOp4.plain (hcalm 7 (by decide)) fun a1 w4 s cx => ?_
        obtain ⟨v37, s37, p37⟩ := cx.slot 6 37 (by kernel_rfl)
        replace p37 : v37 = .bool true := p37
        subst p37
        refine ⟨wanted_none rfl, fun K hK => ?_⟩
        exact wp_gen [(37, .bool true)] ⟨s37, trivial⟩ (by kernel_rfl) (v := .bool false) (w' := w4) (by kernel_rfl) (hK.out _ _ rfl (Below.refl _ _))
      case o8 =>
        refine FlowOp4.plain (hcalm 8 (by decide)) fun a1 w4 s cx => ?_
        obtain ⟨v38, s38, p38⟩ := cx.slot 7 38 (by kernel_rfl)
        replace p38 : v38 = .bool false := p38
        subst p38
        refine ⟨wanted_none rfl, fun K hK => ?_⟩
        exact wp_moved _ rfl _ (ev_tmp s38) (hK.out _ _ rfl (Below.refl _ _))
      case o9 =>
        refine FlowOp4.plain (hcalm 9 (by decide)) fun a1 w4 s cx => ?_
        obtain ⟨v39, s39, p39⟩ := cx.slot 8 39 (by kernel_rfl)
        replace p39 : v39 = .bool false := p39
        subst p39
        have s0 := cx.keep 0 _ (by kernel_rfl) s0
        refine ⟨wanted_yes rfl rfl s39, fun K hK => ?_⟩
        exact wp_moved _ rfl _ (ev_tmp s0) (hK.out _ _ rfl (Below.refl _ _))
      case o10 =>
        refine FlowOp4.plain (hcalm 10 (by decide)) fun a1 w4 s cx => ?_
        obtain ⟨v39, s39, p39⟩ := cx.slot 8 39 (by kernel_rfl)
        replace p39 : v39 = .bool false := p39
        subst p39
        obtain ⟨v40, s40, p40⟩ := cx.slot 9 40 (by kernel_rfl)
        replace p40 : v40 = .pointer (some ⟨b, 0, none⟩) := p40
        subst p40
        have c0 := cx.has 8 (by kernel_rfl)
        have c1 := cx.down 8 _ rfl c0 7 (by kernel_rfl)
        have c2 := cx.down 7 _ rfl c1 6 (by kernel_rfl)
        have c3 := cx.down 6 _ rfl c2 2 (by kernel_rfl)
        have dd := cx.ground.1
        rw [if_pos c3] at dd
        refine ⟨wanted_yes rfl rfl s39, fun K hK => ?_⟩
        refine wp_gen_call [(40, .pointer (some ⟨b, 0, none⟩))] ⟨s40, trivial⟩ (vs := #[.pointer (some ⟨b, 0, none⟩)]) (f := 20) (by kernel_rfl) (fun w => by kernel_rfl) ?_
        refine (held_any b J w4 dd).mono ?_
        rintro e w5 ⟨rfl, rfl⟩
        exact ⟨_, rfl, hK.out _ _ rfl (Below.refl _ _)⟩
      case o11 =>
        refine FlowOp4.plain (hcalm 11 (by decide)) fun a1 w4 s cx => ?_
        obtain ⟨v39, s39, p39⟩ := cx.slot 8 39 (by kernel_rfl)
        replace p39 : v39 = .bool false := p39
        subst p39
        have s9 := cx.keep 9 _ (by kernel_rfl) s9
        refine ⟨wanted_yes rfl rfl s39, fun K hK => ?_⟩
        exact wp_moved _ rfl _ (ev_tmp s9) (hK.out _ _ rfl (Below.refl _ _))
      case o12 =>
        refine FlowOp4.plain (hcalm 12 (by decide)) fun a1 w4 s cx => ?_
        obtain ⟨v39, s39, p39⟩ := cx.slot 8 39 (by kernel_rfl)
        replace p39 : v39 = .bool false := p39
        subst p39
        obtain ⟨v41, s41, p41⟩ := cx.slot 10 41 (by kernel_rfl)
        replace p41 : v41 = .string J := p41
        subst p41
        obtain ⟨v42, s42, p42⟩ := cx.slot 11 42 (by kernel_rfl)
        replace p42 : v42 = .string J := p42
        subst p42
        refine ⟨wanted_yes rfl rfl s39, fun K hK => ?_⟩
        exact wp_gen [(41, .string J), (42, .string J)] ⟨s41, s42, trivial⟩ (by kernel_rfl) (v := .bool false) (w' := w4) (str_ne J 41 42 _ rfl rfl w4) (hK.out _ _ rfl (Below.refl _ _))
      case o13 =>
        refine FlowOp4.plain (hcalm 13 (by decide)) fun a1 w4 s cx => ?_
        obtain ⟨v39, s39, p39⟩ := cx.slot 8 39 (by kernel_rfl)
        replace p39 : v39 = .bool false := p39
        subst p39
        obtain ⟨v43, s43, p43⟩ := cx.slot 12 43 (by kernel_rfl)
        replace p43 : v43 = .bool false := p43
        subst p43
        refine ⟨wanted_none rfl, fun K hK => ?_⟩
        exact wp_picked _ _ _ rfl false (ev_tmp s39) _ (ev_tmp s43) (hK.out _ _ rfl (Below.refl _ _))
      case done =>
        intro a w4 s hall hgr hsz hdf hkp hgot
        obtain ⟨v31, s31, p31⟩ := got_slot4 (s := s) (V := fun _ => nthP (l8 b P J L M wa wc)) hgot 0 31 (by kernel_rfl)
        replace p31 : v31 = .pointer (some ⟨b, 0, none⟩) := p31
        subst p31
        obtain ⟨v32, s32, p32⟩ := got_slot4 (s := s) (V := fun _ => nthP (l8 b P J L M wa wc)) hgot 1 32 (by kernel_rfl)
        replace p32 : v32 = .string P := p32
        subst p32
        obtain ⟨v33, s33, p33⟩ := got_slot4 (s := s) (V := fun _ => nthP (l8 b P J L M wa wc)) hgot 2 33 (by kernel_rfl)
        obtain ⟨v34, s34, p34⟩ := got_slot4 (s := s) (V := fun _ => nthP (l8 b P J L M wa wc)) hgot 3 34 (by kernel_rfl)
        replace p34 : v34 = .slice wa (L ++ M).length wc := p34
        subst p34
        obtain ⟨v35, s35, p35⟩ := got_slot4 (s := s) (V := fun _ => nthP (l8 b P J L M wa wc)) hgot 4 35 (by kernel_rfl)
        replace p35 : v35 = .int .i64 (L.length : Nat) := p35
        subst p35
        obtain ⟨v36, s36, p36⟩ := got_slot4 (s := s) (V := fun _ => nthP (l8 b P J L M wa wc)) hgot 5 36 (by kernel_rfl)
        replace p36 : v36 = sliced wa L.length (L ++ M).length wc 1 := p36
        subst p36
        obtain ⟨v37, s37, p37⟩ := got_slot4 (s := s) (V := fun _ => nthP (l8 b P J L M wa wc)) hgot 6 37 (by kernel_rfl)
        replace p37 : v37 = .bool true := p37
        subst p37
        obtain ⟨v38, s38, p38⟩ := got_slot4 (s := s) (V := fun _ => nthP (l8 b P J L M wa wc)) hgot 7 38 (by kernel_rfl)
        replace p38 : v38 = .bool false := p38
        subst p38
        obtain ⟨v39, s39, p39⟩ := got_slot4 (s := s) (V := fun _ => nthP (l8 b P J L M wa wc)) hgot 8 39 (by kernel_rfl)
        replace p39 : v39 = .bool false := p39
        subst p39
        obtain ⟨v40, s40, p40⟩ := got_slot4 (s := s) (V := fun _ => nthP (l8 b P J L M wa wc)) hgot 9 40 (by kernel_rfl)
        replace p40 : v40 = .pointer (some ⟨b, 0, none⟩) := p40
        subst p40
        obtain ⟨v41, s41, p41⟩ := got_slot4 (s := s) (V := fun _ => nthP (l8 b P J L M wa wc)) hgot 10 41 (by kernel_rfl)
        replace p41 : v41 = .string J := p41
        subst p41
        obtain ⟨v42, s42, p42⟩ := got_slot4 (s := s) (V := fun _ => nthP (l8 b P J L M wa wc)) hgot 11 42 (by kernel_rfl)
        replace p42 : v42 = .string J := p42
        subst p42
        obtain ⟨v43, s43, p43⟩ := got_slot4 (s := s) (V := fun _ => nthP (l8 b P J L M wa wc)) hgot 12 43 (by kernel_rfl)
        replace p43 : v43 = .bool false := p43
        subst p43
        obtain ⟨v44, s44, p44⟩ := got_slot4 (s := s) (V := fun _ => nthP (l8 b P J L M wa wc)) hgot 13 44 (by kernel_rfl)
        replace p44 : v44 = .bool false := p44
        subst p44
        have ha := act_is a a0 [(31, .pointer (some ⟨b, 0, none⟩)), (32, .string P), (33, v33), (34, .slice wa (L ++ M).length wc), (35, .int .i64 (L.length : Nat)), (36, sliced wa L.length (L ++ M).length wc 1), (37, .bool true), (38, .bool false), (39, .bool false), (40, .pointer (some ⟨b, 0, none⟩)), (41, .string J), (42, .string J), (43, .bool false), (44, .bool false)] (by rw [hsz, hz]) hdf (fun t ht => hkp t (keptAll_of (l := ([(31, .pointer (some ⟨b, 0, none⟩)), (32, .string P), (33, v33), (34, .slice wa (L ++ M).length wc), (35, .int .i64 (L.length : Nat)), (36, sliced wa L.length (L ++ M).length wc 1), (37, .bool true), (38, .bool false), (39, .bool false), (40, .pointer (some ⟨b, 0, none⟩)), (41, .string J), (42, .string J), (43, .bool false), (44, .bool false)] : List (Nat × Value)).map (·.1)) (by kernel_rfl) t ht)) ⟨s31, s32, s33, s34, s35, s36, s37, s38, s39, s40, s41, s42, s43, s44, trivial⟩
        rw [HA.out] at ha
        obtain ⟨g1, g2, g3⟩ := hgr
        rw [if_pos (hall 2 (by decide))] at g1
        have HF : Hid (DecAt w4 b (hd (cat (ss.take (k + 1)))) ∧ Below w0.heap.size w0 w4) := by
          unfold Hid
          rw [HN.out.1, HHT.out, hJJ]
          exact ⟨g1, g3⟩
        rw [ha]
        clear ha hkp hgot g1 g2 g3 p33 HA hcalm
        simp only [List.foldl_cons, List.foldl_nil, List.setIfInBounds_toArray, List.set_cons_succ, List.set_cons_zero]
        go_wp2
        exact ⟨⟨k + 1, by go_num, by omega, by rw [HN.out.1], by rw [HN.out.1, HN.out.2, List.length_append]; simp, HF⟩, by simp [RowKit.intOf]; omega⟩
    · have l1i : ¬ (k : Int) < (ss.length : Int) := by omega
      have x1 : ss.take k = ss := List.take_of_length_le (by omega)
      rw [x1] at HI ⊢
      have m1 := cat_size ss
      obtain ⟨C, eC⟩ : ∃ C, cat ss = C := ⟨_, rfl⟩
      rw [eC] at HI m1 ⊢
      have hsl := sn_len C
      have kd := rdecode_any C wr (by omega)
      rw [runes_nums, intsC_is] at kd
      have el : (poss C).length = (nums C).length := by unfold nums; rw [List.length_map]
      rw [el, ← rest_end] at kd
      have HMm : Hid (endL (hd C) = endL (hd C)) := rfl
      obtain ⟨H, eH⟩ : ∃ H, hd C = H := ⟨_, rfl⟩
      obtain ⟨L, eL⟩ : ∃ L, sn C = L := ⟨_, rfl⟩
      have j1 : (endL H).length ≤ 1 := by unfold endL; split <;> simp
      obtain ⟨M, eM⟩ : ∃ M, endL H = M := ⟨_, rfl⟩
      rw [eH] at HI kd; rw [eL] at kd hsl ⊢; rw [eM] at kd j1
      have HMM : Hid (endL H = M) := eM
      have hMl : M.length ≤ 140737488355328 := by omega
      clear eC eH eL eM x1 el HMm
      go_wp2_with (go_at_call 21; refine kd.mono ?_)
      first | rintro e w3 v3 rfl ho b3 | rintro e w3 ⟨v3, rfl, ho, b3⟩
      replace ho : w3.ownsRow wr.heap.size 21 1 v3 (L ++ M).length (intsC (L ++ M)) := by rw [List.length_append]; exact ho
      obtain ⟨wa, wc, rfl, _⟩ := owns_slice ho
      have hB3 : Below w0.heap.size w0 w3 := HI.out.2.trans (b3.mono hwz)
      have D3 := HI.out.1.below b3
      clear kd b3
      go_wp2
      have hT := TB.out w0 (Below.refl _ _)
      have hM := HMM.out
      refine wp_keep fun a0 ha0 => ?_
      have hz : a0.tmps.size = 61 := by rw [ha0]; rfl
      have s0 : a0.tmps[0]? = some (.pointer (some ⟨b, 0, none⟩)) := by rw [ha0]; rfl
      have s11 : a0.tmps[11]? = some (.slice wa (L ++ M).length wc) := by rw [ha0, List.length_append]; rfl
      have s6 : a0.tmps[6]? = some (.int .i64 (L.length : Nat)) := by rw [ha0]; rfl
      have hcalm := fun i hi => gT_calm (i0 := 1) (b := b) (H := H) (J := ⟨#[]⟩) (L := L) (M := M) (wa := wa) (wc := wc) (base := wr.heap.size) (w0 := w0) (l13_stays (b := b) (L := L) (M := M) (wa := wa) (wc := wc)) i hi
      have HA : Hid (a0 = _) := ha0
      clear ha0
      refine wp_region_turn (gT 1 b H ⟨#[]⟩ L M wa wc wr.heap.size w0) (fun _ => nthP (l13 b L M wa wc)) 61 hz (by kernel_rfl) (by kernel_rfl) ?start ⟨?o0, ?o1, ?o2, ?o3, ?o4, ?o5, ?o6, ?o7, ?o8, ?o9, ?o10, ?o11, trivial⟩ ?done
      case start =>
        intro w4 hb4 hs4 s hs
        exact ⟨by rw [if_neg (by rw [hs]; simp)]; exact D3.below hb4, owns_below ho hb4, hB3.trans (hb4.mono hB3.size)⟩
      case o0 =>
        refine FlowOp4.plain (hcalm 0 (by decide)) fun a1 w4 s cx => ?_
        have s0 := cx.keep 0 _ (by kernel_rfl) s0
        refine ⟨wanted_none rfl, fun K hK => ?_⟩
        exact wp_moved _ rfl _ (ev_tmp s0) (hK.out _ _ rfl (Below.refl _ _))
      case o1 =>
        refine FlowOp4.turn fun a1 w4 s cx => ?_
        obtain ⟨v50, s50, p50⟩ := cx.slot 0 50 (by kernel_rfl)
        replace p50 : v50 = .pointer (some ⟨b, 0, none⟩) := p50
        subst p50
        obtain ⟨dd, gr, bl⟩ := cx.ground
        rw [if_neg (by rw [cx.new]; simp)] at dd
        have hz4 := bl.size
        refine ⟨wanted_none rfl, fun K hK => ?_⟩
        refine wp_gen_call [(50, .pointer (some ⟨b, 0, none⟩))] ⟨s50, trivial⟩ (vs := #[.pointer (some ⟨b, 0, none⟩)]) (f := 19) (by kernel_rfl) (fun w => by kernel_rfl) ?_
        refine (endA_any b H w4 dd).mono ?_
        rintro e w5 ⟨v, rfl, ho, d5, g5⟩
        rw [hM] at ho
        refine ⟨_, rfl, hK.out v w5 ⟨?_, gr.kept g5 (.inr (row_not gr dd)), bl.grown g5 (by omega) (fun j hj => by cases hj; exact hnb)⟩ ho (fun j u hj hu => l13_const (fun q => by rw [q, cx.new] at hj; cases hj) hu)⟩
        rw [if_pos (by simp [mark])]
        exact d5
      case o2 =>
        refine FlowOp4.plain (hcalm 2 (by decide)) fun a1 w4 s cx => ?_
        have s11 := cx.keep 11 _ (by kernel_rfl) s11
        refine ⟨wanted_none rfl, fun K hK => ?_⟩
        exact wp_moved _ rfl _ (ev_tmp s11) (hK.out _ _ rfl (Below.refl _ _))
      case o3 =>
        refine FlowOp4.plain (hcalm 3 (by decide)) fun a1 w4 s cx => ?_
        have s6 := cx.keep 6 _ (by kernel_rfl) s6
        refine ⟨wanted_none rfl, fun K hK => ?_⟩
        exact wp_moved _ rfl _ (ev_tmp s6) (hK.out _ _ rfl (Below.refl _ _))
      case o4 =>
        refine FlowOp4.plain (hcalm 4 (by decide)) fun a1 w4 s cx => ?_
        obtain ⟨v52, s52, p52⟩ := cx.slot 2 52 (by kernel_rfl)
        replace p52 : v52 = .slice wa (L ++ M).length wc := p52
        subst p52
        obtain ⟨v53, s53, p53⟩ := cx.slot 3 53 (by kernel_rfl)
        replace p53 : v53 = .int .i64 (L.length : Nat) := p53
        subst p53
        refine ⟨wanted_none rfl, fun K hK => ?_⟩
        exact wp_gen [(52, .slice wa (L ++ M).length wc), (53, .int .i64 (L.length : Nat))] ⟨s52, s53, trivial⟩ (by kernel_rfl) (slice_op _ 52 53 rfl rfl w4 wa (L ++ M).length wc L.length (by rw [List.length_append]; omega)) (hK.out _ _ rfl (Below.refl _ _))
      case o5 =>
        refine FlowOp4.plain (hcalm 5 (by decide)) fun a1 w4 s cx => ?_
        obtain ⟨v51, s51, p51⟩ := cx.slot 1 51 (by kernel_rfl)
        replace p51 : RdsA w4 v51 M := p51
        obtain ⟨v54, s54, p54⟩ := cx.slot 4 54 (by kernel_rfl)
        replace p54 : v54 = sliced wa L.length (L ++ M).length wc 1 := p54
        subst p54
        have gr := cx.ground.2.1
        refine ⟨wanted_none rfl, fun K hK => ?_⟩
        refine wp_gen_call [(51, v51), (54, sliced wa L.length (L ++ M).length wc 1)] ⟨s51, s54, trivial⟩ (vs := #[v51, sliced wa L.length (L ++ M).length wc 1]) (f := 13) (by kernel_rfl) (fun w => by kernel_rfl) ?_
        refine (same_rds M v51 _ w4 p51.rds (rds_tail gr) hMl).mono ?_
        rintro e w5 ⟨rfl, hb⟩
        exact ⟨_, rfl, hK.out _ _ rfl hb⟩
      case o6 =>
        refine FlowOp4.plain (hcalm 6 (by decide)) fun a1 w4 s cx => ?_
        obtain ⟨v55, s55, p55⟩ := cx.slot 5 55 (by kernel_rfl)
        replace p55 : v55 = .bool true := p55
        subst p55
        refine ⟨wanted_none rfl, fun K hK => ?_⟩
        exact wp_moved _ rfl _ (ev_tmp s55) (hK.out _ _ rfl (Below.refl _ _))
      case o7 =>
        refine FlowOp4.plain (hcalm 7 (by decide)) fun a1 w4 s cx => ?_
        obtain ⟨v56, s56, p56⟩ := cx.slot 6 56 (by kernel_rfl)
        replace p56 : v56 = .bool true := p56
        subst p56
        have s0 := cx.keep 0 _ (by kernel_rfl) s0
        refine ⟨wanted_yes rfl rfl s56, fun K hK => ?_⟩
        exact wp_moved _ rfl _ (ev_tmp s0) (hK.out _ _ rfl (Below.refl _ _))
      case o8 =>
        refine FlowOp4.plain (hcalm 8 (by decide)) fun a1 w4 s cx => ?_
        obtain ⟨v56, s56, p56⟩ := cx.slot 6 56 (by kernel_rfl)
        replace p56 : v56 = .bool true := p56
        subst p56
        obtain ⟨v57, s57, p57⟩ := cx.slot 7 57 (by kernel_rfl)
        replace p57 : v57 = .pointer (some ⟨b, 0, none⟩) := p57
        subst p57
        have c0 := cx.has 6 (by kernel_rfl)
        have c1 := cx.down 6 _ rfl c0 5 (by kernel_rfl)
        have c2 := cx.down 5 _ rfl c1 1 (by kernel_rfl)
        have dd := cx.ground.1
        rw [if_pos c2] at dd
        refine ⟨wanted_yes rfl rfl s56, fun K hK => ?_⟩
        refine wp_gen_call [(57, .pointer (some ⟨b, 0, none⟩))] ⟨s57, trivial⟩ (vs := #[.pointer (some ⟨b, 0, none⟩)]) (f := 20) (by kernel_rfl) (fun w => by kernel_rfl) ?_
        refine (held_any b ⟨#[]⟩ w4 dd).mono ?_
        rintro e w5 ⟨rfl, rfl⟩
        exact ⟨_, rfl, hK.out _ _ rfl (Below.refl _ _)⟩
      case o9 =>
        refine FlowOp4.plain (hcalm 9 (by decide)) fun a1 w4 s cx => ?_
        obtain ⟨v56, s56, p56⟩ := cx.slot 6 56 (by kernel_rfl)
        replace p56 : v56 = .bool true := p56
        subst p56
        obtain ⟨v58, s58, p58⟩ := cx.slot 8 58 (by kernel_rfl)
        replace p58 : v58 = .string ⟨#[]⟩ := p58
        subst p58
        refine ⟨wanted_yes rfl rfl s56, fun K hK => ?_⟩
        exact wp_gen [(58, .string ⟨#[]⟩)] ⟨s58, trivial⟩ (by kernel_rfl) (v := .bool true) (w' := w4) (by kernel_rfl) (hK.out _ _ rfl (Below.refl _ _))
      case o10 =>
        refine FlowOp4.plain (hcalm 10 (by decide)) fun a1 w4 s cx => ?_
        obtain ⟨v56, s56, p56⟩ := cx.slot 6 56 (by kernel_rfl)
        replace p56 : v56 = .bool true := p56
        subst p56
        obtain ⟨v59, s59, p59⟩ := cx.slot 9 59 (by kernel_rfl)
        replace p59 : v59 = .bool true := p59
        subst p59
        refine ⟨wanted_none rfl, fun K hK => ?_⟩
        exact wp_picked _ _ _ rfl true (ev_tmp s56) _ (ev_tmp s59) (hK.out _ _ rfl (Below.refl _ _))
      case o11 =>
        refine FlowOp4.plain (hcalm 11 (by decide)) fun a1 w4 s cx => ?_
        obtain ⟨v60, s60, p60⟩ := cx.slot 10 60 (by kernel_rfl)
        replace p60 : v60 = .bool true := p60
        subst p60
        refine ⟨wanted_none rfl, fun K hK => ?_⟩
        exact wp_assigned _ rfl _ (ev_tmp s60) (hK.out _ _ rfl (Below.refl _ _))
      case done =>
        intro a w4 s hall hgr hsz hdf hkp hgot
        obtain ⟨v50, s50, p50⟩ := got_slot4 (s := s) (V := fun _ => nthP (l13 b L M wa wc)) hgot 0 50 (by kernel_rfl)
        replace p50 : v50 = .pointer (some ⟨b, 0, none⟩) := p50
        subst p50
        obtain ⟨v51, s51, p51⟩ := got_slot4 (s := s) (V := fun _ => nthP (l13 b L M wa wc)) hgot 1 51 (by kernel_rfl)
        obtain ⟨v52, s52, p52⟩ := got_slot4 (s := s) (V := fun _ => nthP (l13 b L M wa wc)) hgot 2 52 (by kernel_rfl)
        replace p52 : v52 = .slice wa (L ++ M).length wc := p52
        subst p52
        obtain ⟨v53, s53, p53⟩ := got_slot4 (s := s) (V := fun _ => nthP (l13 b L M wa wc)) hgot 3 53 (by kernel_rfl)
        replace p53 : v53 = .int .i64 (L.length : Nat) := p53
        subst p53
        obtain ⟨v54, s54, p54⟩ := got_slot4 (s := s) (V := fun _ => nthP (l13 b L M wa wc)) hgot 4 54 (by kernel_rfl)
        replace p54 : v54 = sliced wa L.length (L ++ M).length wc 1 := p54
        subst p54
        obtain ⟨v55, s55, p55⟩ := got_slot4 (s := s) (V := fun _ => nthP (l13 b L M wa wc)) hgot 5 55 (by kernel_rfl)
        replace p55 : v55 = .bool true := p55
        subst p55
        obtain ⟨v56, s56, p56⟩ := got_slot4 (s := s) (V := fun _ => nthP (l13 b L M wa wc)) hgot 6 56 (by kernel_rfl)
        replace p56 : v56 = .bool true := p56
        subst p56
        obtain ⟨v57, s57, p57⟩ := got_slot4 (s := s) (V := fun _ => nthP (l13 b L M wa wc)) hgot 7 57 (by kernel_rfl)
        replace p57 : v57 = .pointer (some ⟨b, 0, none⟩) := p57
        subst p57
        obtain ⟨v58, s58, p58⟩ := got_slot4 (s := s) (V := fun _ => nthP (l13 b L M wa wc)) hgot 8 58 (by kernel_rfl)
        replace p58 : v58 = .string ⟨#[]⟩ := p58
        subst p58
        obtain ⟨v59, s59, p59⟩ := got_slot4 (s := s) (V := fun _ => nthP (l13 b L M wa wc)) hgot 9 59 (by kernel_rfl)
        replace p59 : v59 = .bool true := p59
        subst p59
        obtain ⟨v60, s60, p60⟩ := got_slot4 (s := s) (V := fun _ => nthP (l13 b L M wa wc)) hgot 10 60 (by kernel_rfl)
        replace p60 : v60 = .bool true := p60
        subst p60
        obtain ⟨v4, s4, p4⟩ := got_slot4 (s := s) (V := fun _ => nthP (l13 b L M wa wc)) hgot 11 4 (by kernel_rfl)
        replace p4 : v4 = .bool true := p4
        subst p4
        have ha := act_is a a0 [(50, .pointer (some ⟨b, 0, none⟩)), (51, v51), (52, .slice wa (L ++ M).length wc), (53, .int .i64 (L.length : Nat)), (54, sliced wa L.length (L ++ M).length wc 1), (55, .bool true), (56, .bool true), (57, .pointer (some ⟨b, 0, none⟩)), (58, .string ⟨#[]⟩), (59, .bool true), (60, .bool true), (4, .bool true)] (by rw [hsz, hz]) hdf (fun t ht => hkp t (keptAll_of (l := ([(50, .pointer (some ⟨b, 0, none⟩)), (51, v51), (52, .slice wa (L ++ M).length wc), (53, .int .i64 (L.length : Nat)), (54, sliced wa L.length (L ++ M).length wc 1), (55, .bool true), (56, .bool true), (57, .pointer (some ⟨b, 0, none⟩)), (58, .string ⟨#[]⟩), (59, .bool true), (60, .bool true), (4, .bool true)] : List (Nat × Value)).map (·.1)) (by kernel_rfl) t ht)) ⟨s50, s51, s52, s53, s54, s55, s56, s57, s58, s59, s60, s4, trivial⟩
        rw [HA.out] at ha
        obtain ⟨g1, g2, g3⟩ := hgr
        rw [if_pos (hall 1 (by decide))] at g1
        have HF : Hid (DecAt w4 b ⟨#[]⟩ ∧ Below w0.heap.size w0 w4) := ⟨g1, g3⟩
        rw [ha]
        clear ha hkp hgot g1 g2 g3 p51 HA hcalm
        simp only [List.foldl_cons, List.foldl_nil, List.setIfInBounds_toArray, List.set_cons_succ, List.set_cons_zero]
        go_wp2
        go_ret
        exact ⟨rfl, HF.out⟩
end Go.Proofs.YtabofadjnbpjkabDoor
