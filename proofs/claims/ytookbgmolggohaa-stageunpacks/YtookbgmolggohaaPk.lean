/-
  The contracts of appendNumber and of Pack: the packed text of what a table says. Condition: the table's numbers are from 0 to 65535.
-/
import Derived.Test.YtookbgmolggohaaOy
namespace Go.Proofs.Ytookbgmolggohaa
open Go.RowKit
theorem info5 : (Try.prog.info? 5).map (fun i => (i.zero, i.size, i.bytes)) = some (some (.int .u8 0), 1, 1) := by kernel_rfl
theorem under5 : Try.prog.underlying 5 = some (.int .u8) := by kernel_rfl
/-- A number in two bytes. -/
def num2 (z : Int) : List Int := [z / 256, z % 256]
def u8s (zs : List Int) : List Value := zs.map fun z => Value.int .u8 z
theorem u8s_app (a b : List Int) : u8s (a ++ b) = u8s a ++ u8s b := by simp [u8s]
theorem string_own {P : Program} {wr : World} {base : Nat} {v : Value} {zs : List Int} (src e dst : TypeId) (h : wr.ownsRow base e 1 v zs.length (zs.map fun z => Value.int .u8 z)) (hs : P.underlying src = some (.slice e)) (he : P.underlying e = some (.int .u8)) (hd : P.underlying dst = some .string) :
    (convert src dst v).run P wr = .ok (.string (strOfNums zs)) wr := by
  obtain ⟨hl, h | ⟨g, cap, cur, rfl, hb, hg, hn, hc, hz, ht⟩⟩ := h
  · obtain ⟨rfl, hz⟩ := h
    have : zs = [] := List.eq_nil_of_length_eq_zero hz
    subst this
    exact run_convert_bytes_nil wr src e hs he 0 0 dst hd
  · refine run_convert_bytes_arg wr src e hs he g 0 zs.length cap zs rfl (fun i hi => ?_) dst hd
    have e1 : cur.toList[i]? = (zs.map fun z => Value.int .u8 z)[i]? := by
      rw [← ht, List.getElem?_take_of_lt (by omega)]
    have e2 : wr.cell? ⟨g, i, none⟩ = cur[i]? := by simp [World.cell?, hg]
    rw [Nat.zero_add, e2, ← Array.getElem?_toList, e1]
    simp [List.getD, List.getElem?_eq_getElem hi]
theorem cells_two (w : World) (x y : Value) (t : TypeId) : ∀ j u, [x, y][j]? = some u → (w.alloc (.cells #[x, y] t)).cell? ((⟨w.heap.size, 0, none⟩ : Addr).add j) = some u := fun j u h => cells_new w #[x, y] t j u h
set_option maxRecDepth 100000 in
theorem anum_any (base : Nat) (zs : List Int) (z : Int) (v : Value) (w : World) (hb : base ≤ w.heap.size) (hz0 : 0 ≤ z) (hz : z ≤ 65535) (hl : zs.length ≤ 100000000) (hO : w.ownsRow base 5 1 v zs.length (u8s zs)) : Calls Try.prog 45 #[v, .int .u16 z] w fun e w' => ∃ v', e = .returned v' ∧ w'.ownsRow base 5 1 v' (zs ++ num2 z).length (u8s (zs ++ num2 z)) ∧ Below base w w' := by
  obtain ⟨i0, hi, hz0', hz1, hz2⟩ := info_parts info5
  replace hO : Hid (w.ownsRow base 5 1 v zs.length (u8s zs)) := hO
  have HL : Hid (zs.length ≤ 100000000) := hl
  have cn : Hid (∀ j u, [Value.int .u8 (z / 256), Value.int .u8 (z % 256)][j]? = some u → (w.alloc (.cells #[.int .u8 (z / 256), .int .u8 (z % 256)] 5)).cell? ((⟨w.heap.size, 0, none⟩ : Addr).add j) = some u) := cells_two w _ _ 5
  clear hl
  go_enter Try.func45, Try.ntmps45
  go_wp2_with (at_builtin; refine wpList_append_own_at _ rfl _ _ 55 rfl base 5 i0 _ 1 1 Try.underlying55 hi hz0' hz1 hz2 rfl (by decide) _ _ _ rfl (hO.out.alloc _) ⟨_, 0, none⟩ 2 2 [.int .u8 (z / 256), .int .u8 (z % 256)] rfl rfl cn.out ?a2 ?a3 ?a4 ?a5 ?a6)
  case a2 => simp [Value.oneCell']
  case a3 => unfold maxLen; have := HL.out; omega
  case a4 => have := HL.out; omega
  case a5 => first | omega | (simp; omega)
  case a6 =>
    intro v1 W1 hown1 hgrow1 _ _
    have O1 : Hid (W1.ownsRow base 5 1 v1 (zs ++ num2 z).length (u8s (zs ++ num2 z))) := by rw [Hid, u8s_app, List.length_append]; exact hown1
    have B1 : Hid (Below base w W1) := ((Below.refl base w).alloc (by omega) _).grown hgrow1 (by simp; omega) (fun j hj => (hO.out.lt j hj).1)
    clear hown1 hgrow1 cn
    go_wp2
    go_ret
    exact ⟨_, rfl, O1.out, B1.out⟩
theorem wpList_al72 {ops : Array Oper} {rest : List Oper} {o : Oper} {a : Act} {w : World} {Q : Exit → Act → World → Prop} (hgd : o.guard = none) (ho : o.op = .alloc 72) (hc : covers o [] = true)
    (h : wpList Try.prog ops Q rest (a.put o.dst (.pointer (some ⟨w.heap.size, 0, none⟩))) (w.alloc (.cells (rowOf .u16 128 zerosF) 72))) : wpList Try.prog ops Q (o :: rest) a w :=
  wpList_plain hgd fun _ hK => wp_gen [] trivial hc (run_al72 ho) (hK _ _ h)
theorem wpList_st72 {ops : Array Oper} {rest : List Oper} {o : Oper} {a : Act} {w : World} {Q : Exit → Act → World → Prop} (hgd : o.guard = none) (x y : Operand) (ho : o.op = .store 72 x y) (hd : o.dst = none) (f : Nat → Int) (X : Array Value) (hX : X = rowOf .u16 128 f) (hx : a.eval x = .pointer (some ⟨w.heap.size, 0, none⟩)) (hy : a.eval y = .agg X)
    (h : wpList Try.prog ops Q rest a (w.alloc (.cells X 72))) : wpList Try.prog ops Q (o :: rest) a (w.alloc (.cells (rowOf .u16 128 zerosF) 72)) :=
  wpList_plain hgd fun K hK => by
    subst hX
    have hr := run_st72 (w := w.alloc (.cells (rowOf .u16 128 zerosF) 72)) (b := w.heap.size) (f := f) (g := zerosF) (heap_alloc_last _ _)
    rw [setRow_at w _ _ 72 _ rfl] at hr
    have hk := hK _ _ h
    unfold Oper.wp execOp
    simp only [ho, hx, hy, Instr.storeAt, Instr.sureAddr, Sem.run_bind, Sem.run_pure, Result.andThen_ok, hr, Oper.upon]
    rw [hd]
    exact hk
theorem wpList_cvs {P : Program} {ops : Array Oper} {rest : List Oper} {o : Oper} {a : Act} {w : World} {Q : Exit → Act → World → Prop} (hgd : o.guard = none) (src dst : TypeId) (x : Operand) (ho : o.op = .convert src dst x) (v : Value) (hx : a.eval x = v) (u : Value) (hr : (convert src dst v).run P w = .ok u w)
    (h : wpList P ops Q rest (a.put o.dst u) w) : wpList P ops Q (o :: rest) a w :=
  wpList_plain hgd fun K hK => by
    unfold Oper.wp execOp
    simp only [ho, hx, Sem.run_bind, Sem.run_pure, Result.andThen_ok, hr]
    exact hK _ _ h
/-- The bytes of the first j numbers of a block, of the first blocks, of the first places. -/
def blB (f : Nat → Int) (j : Nat) : List Int := (List.range j).flatMap fun i => num2 (f i)
def usB (U : List (Nat → Int)) : List Int := U.flatMap fun f => blB f 128
noncomputable def psB (F : Int → Int) (k : Nat) : List Int := (List.range k).flatMap fun i => num2 (plc F i : Nat)
theorem blB_succ (f : Nat → Int) (j : Nat) : blB f (j + 1) = blB f j ++ num2 (f j) := by simp [blB, List.range_succ]
theorem psB_succ (F : Int → Int) (k : Nat) : psB F (k + 1) = psB F k ++ num2 (plc F k : Nat) := by simp [psB, List.range_succ]
theorem usB_snoc (U : List (Nat → Int)) (f : Nat → Int) : usB (U ++ [f]) = usB U ++ blB f 128 := by simp [usB]
theorem flat2_len (g : Nat → Int) (k : Nat) : ((List.range k).flatMap fun i => num2 (g i)).length = 2 * k := by
  induction k with
  | zero => rfl
  | succ k ih => rw [List.range_succ, List.flatMap_append, List.length_append, ih]; simp [num2]; omega
theorem blB_len (f : Nat → Int) (j : Nat) : (blB f j).length = 2 * j := flat2_len f j
theorem psB_len (F : Int → Int) (k : Nat) : (psB F k).length = 2 * k := flat2_len (fun i => ((plc F i : Nat) : Int)) k
theorem usB_len : ∀ U : List (Nat → Int), (usB U).length = 256 * U.length
  | [] => rfl
  | f :: U => by
    show (blB f 128 ++ usB U).length = _
    rw [List.length_append, blB_len, usB_len U, List.length_cons]
    omega
/-- The packed text. -/
noncomputable def pkL (F : Int → Int) : List Int := num2 ((unl F 8704).length : Nat) ++ psB F 8704 ++ usB (unl F 8704)
noncomputable def pkT (F : Int → Int) : ByteArray := strOfNums (pkL F)
set_option maxRecDepth 100000 in
set_option maxHeartbeats 4000000 in
theorem pack_any (vt : Value) (F : Int → Int) (w : World) (hT : Tab w vt F) (hF : ∀ p, 0 ≤ F p ∧ F p ≤ 65535) : Calls Try.prog 23 #[vt] w fun e w' => e = .returned (.string (pkT F)) ∧ Below w.heap.size w w' := by
  obtain ⟨i0, hi, hz0, hz1, hz2⟩ := info_parts info5
  have KF : Hid (Calls Try.prog 39 #[vt] w fun e w' => ∃ T, e = .returned (.pointer (some ⟨T, 0, none⟩)) ∧ TabAt w' T F ∧ Below w.heap.size w w') := full_any w vt F hT
  have hpl : Hid (∀ i, i < 8704 → plc F i < 65536) := fun i hi => by have := plc_lt F hi; have := unl_len F 8704; omega
  have hbl : Hid (∀ f ∈ unl F 8704, ∀ j, 0 ≤ f j ∧ f j ≤ 65535) := fun f hf j => by
    obtain ⟨i, _, rfl⟩ := unl_all F 8704 f hf
    exact blk_range hF i j
  have hul := unl_len F 8704
  have HPK : Hid (num2 ((unl F 8704).length : Nat) ++ psB F 8704 ++ usB (unl F 8704) = pkL F) := rfl
  clear hT hF
  unfold pkT
  generalize pkL F = PKL at *
  go_enter Try.func23, Try.ntmps23
  go_wp2_with (go_at_call 39; refine KF.out.mono ?_)
  first | rintro e wa T rfl ta ba | rintro e wa ⟨T, rfl, ta, ba⟩
  obtain ⟨pg, pc, ug, uc, c1, -, -, c4, c5⟩ := ta
  obtain ⟨d1, d2⟩ := tab_cells c1
  have hD : Hid (∀ W, Below wa.heap.size wa W → W.cell? ⟨T, 0, none⟩ = some (.slice (some ⟨pg, 0, none⟩) 8704 pc) ∧ W.cell? ⟨T, 1, none⟩ = some (.slice (some ⟨ug, 0, none⟩) (unl F 8704).length uc)) := fun W hb => ⟨(hb.cell (p := ⟨T, 0, none⟩) (World.block_lt_of_cell? wa _ d1)).trans d1, (hb.cell (p := ⟨T, 1, none⟩) (World.block_lt_of_cell? wa _ d2)).trans d2⟩
  have hP : Hid (∀ W i, Below wa.heap.size wa W → i < 8704 → W.cell? ⟨pg, i, none⟩ = some (.int .u16 (plc F i : Nat))) := fun W i hb hi => (hb.cell (p := ⟨pg, i, none⟩) (World.block_lt_of_cell? wa _ (c4 i hi))).trans (c4 i hi)
  have HU : Hid (∀ (W : World) i, Below wa.heap.size wa W → (h : i < (unl F 8704).length) → (loadVar 72 ⟨ug, i * 128, none⟩).run Try.prog W = .ok (.agg (rowOf .u16 128 ((unl F 8704)[i]))) W) := fun W i hb hi => by
    refine run_l72 fun j hj => ?_
    have h1 := c5 i ((unl F 8704)[i]) (List.getElem?_eq_getElem hi) j hj
    exact (hb.cell (p := ⟨ug, i * 128 + j, none⟩) (World.block_lt_of_cell? wa _ h1)).trans h1
  have Ba : Hid (Below w.heap.size w wa) := ba
  have e2 := d2
  have wu : IntKind.u16.wrap (((unl F 8704).length : Nat) : Int) = (((unl F 8704).length : Nat) : Int) := IntWalk.u16_in _ (by omega)
  clear KF c1 c4 c5 d1 d2 ba
  generalize hU : unl F 8704 = U at *
  have hul2 : (U.length : Int) ≤ 8704 := by omega
  go_wp2_with (at_make; refine wpList_make_own _ rfl _ _ 55 rfl wa.heap.size 5 i0 _ 1 Try.underlying55 hi hz0 hz1 .i64 .i64 _ (2 * (8705 + 128 * U.length)) rfl rfl (by omega) (by rw [hz2]; omega) (by unfold maxLen; omega) (Nat.le_refl _) ?_)
  intro w1 hown hgrow
  have O1 : Hid (w1.ownsRow wa.heap.size 5 1 (.slice (some ⟨wa.heap.size, 0, none⟩) 0 (2 * (8705 + 128 * U.length))) ([] : List Int).length (u8s [])) := hown
  have B1 : Hid (Below wa.heap.size wa w1) := (Below.refl _ wa).grown hgrow (Nat.le_refl _) (fun k hk => by cases hk)
  clear hown hgrow e2
  obtain ⟨d1, d2⟩ := hD.out w1 B1.out
  have KA : Hid (∀ (W : World) (zs : List Int) (z : Int) (v : Value), Below wa.heap.size wa W → W.ownsRow wa.heap.size 5 1 v zs.length (u8s zs) → zs.length ≤ 100000000 → 0 ≤ z → z ≤ 65535 → Calls Try.prog 45 #[v, .int .u16 z] W fun e w' => ∃ v', e = .returned v' ∧ w'.ownsRow wa.heap.size 5 1 v' (zs ++ num2 z).length (u8s (zs ++ num2 z)) ∧ Below wa.heap.size W w') := fun W zs z v hW hO hl h0 h1 => anum_any wa.heap.size zs z v W hW.size h0 h1 hl hO
  have W1 : (((U.length : Nat) : Int) ≤ 65535) := by omega
  go_wp2_with (go_at_call 45; refine (KA.out _ [] ((U.length : Nat) : Int) _ B1.out O1.out (by simp) (by omega) (by omega)).mono ?_)
  first | rintro e w2 v2 rfl o2 b2 | rintro e w2 ⟨v2, rfl, o2, b2⟩
  have O2 : Hid (w2.ownsRow wa.heap.size 5 1 v2 (num2 (U.length : Nat)).length (u8s (num2 (U.length : Nat)))) := o2
  have B2 : Hid (Below wa.heap.size wa w2) := B1.out.trans b2
  clear o2 b2 O1 B1 d1 d2 W1
  obtain ⟨d1, d2⟩ := hD.out w2 B2.out
  have hn2 : Hid ((num2 (U.length : Nat)).length = 2) := rfl
  generalize num2 (U.length : Nat) = Z0 at *
  go_wp2_with fail
  clear d1 d2
  go_loopw [3, 34] (fun x y wr => ∃ k : Nat, k ≤ 8704 ∧ y = .int .i64 (k : Nat) ∧ Hid (wr.ownsRow wa.heap.size 5 1 x (Z0 ++ psB F k).length (u8s (Z0 ++ psB F k))) ∧ Hid (Below wa.heap.size wa wr)) (fun _ y _ => (8704 - (intOf y).toNat : Nat))
  case atStart => exact ⟨0, by omega, rfl, by rw [show psB F 0 = [] from rfl, List.append_nil]; exact O2, B2⟩
  case round =>
    clear O2 B2
    obtain ⟨k, hk, rfl, hO, hB⟩ := hrel
    by_cases hkl : k < 8704
    · have kl : (k : Int) < 8704 := by omega
      have e3 := hP.out wr k hB.out hkl
      have hlt := hpl.out k hkl
      have hstep : Hid (Z0 ++ psB F (k + 1) = Z0 ++ psB F k ++ num2 (plc F k : Nat)) := by rw [Hid, psB_succ, List.append_assoc]
      have hln : Hid ((Z0 ++ psB F k).length ≤ 100000000) := by rw [Hid, List.length_append, psB_len, hn2.out]; omega
      have HK : Hid (k < 8704) := hkl
      have p0 : (0 : Int) ≤ ((plc F k : Nat) : Int) := by omega
      have p1 : ((plc F k : Nat) : Int) ≤ 65535 := by omega
      generalize Z0 ++ psB F k = PP at *
      generalize plc F k = pk at *
      clear hlt hkl
      go_wp2_with (go_at_call 45; refine (KA.out _ PP (pk : Nat) _ hB.out hO.out hln.out (by omega) (by omega)).mono ?_)
      first | rintro e w3 v3 rfl o3 b3 | rintro e w3 ⟨v3, rfl, o3, b3⟩
      have O3 : Hid (w3.ownsRow wa.heap.size 5 1 v3 (Z0 ++ psB F (k + 1)).length (u8s (Z0 ++ psB F (k + 1)))) := by rw [Hid, hstep.out]; exact o3
      have B3 : Hid (Below wa.heap.size wa w3) := hB.out.trans b3
      clear o3 b3 hO hB e3 hstep
      go_wp2
      exact ⟨⟨k + 1, by have := HK.out; omega, by go_num, O3, B3⟩, by have := HK.out; simp [intOf]; omega⟩
    · have hkk : k = 8704 := by omega
      subst hkk
      obtain ⟨d1, d2⟩ := hD.out wr hB.out
      have hn3 : Hid ((Z0 ++ psB F 8704).length = 17410) := by rw [Hid, List.length_append, psB_len, hn2.out]
      generalize Z0 ++ psB F 8704 = Z1 at *
      obtain ⟨wo, hwo⟩ : ∃ wo, wo = wr := ⟨_, rfl⟩
      subst hwo
      clear hkl hn2
      go_wp2_with fail
      clear d1 d2
      go_loopw [3, 47] (fun x y wr => ∃ k : Nat, k ≤ U.length ∧ y = .int .i64 (k : Nat) ∧ Hid (wr.ownsRow wa.heap.size 5 1 x (Z1 ++ usB (U.take k)).length (u8s (Z1 ++ usB (U.take k)))) ∧ Hid (Below wa.heap.size wa wr)) (fun _ y _ => (U.length - (intOf y).toNat : Nat))
      case atStart => exact ⟨0, Nat.zero_le _, rfl, by rw [show usB (U.take 0) = [] from rfl, List.append_nil]; exact hO, hB⟩
      case round =>
        clear hO hB
        obtain ⟨k, hk, rfl, hO, hB⟩ := hrel
        by_cases hkl : k < U.length
        · have kl : (k : Int) < (U.length : Int) := by omega
          have hku : ¬ U.length ≤ k := by omega
          have hld := HU.out wr k hB.out hkl
          have hrg : Hid (∀ j, 0 ≤ U[k] j ∧ U[k] j ≤ 65535) := hbl.out _ (List.getElem_mem hkl)
          have hstep : Hid (Z1 ++ usB (U.take (k + 1)) = Z1 ++ usB (U.take k) ++ blB U[k] 128) := by
            rw [Hid, List.take_add_one, List.getElem?_eq_getElem hkl, Option.toList_some, usB_snoc, List.append_assoc]
          have hln : Hid ((Z1 ++ usB (U.take k)).length ≤ 90000000) := by rw [Hid, List.length_append, usB_len, hn3.out, List.length_take]; omega
          have hix : Hid (∀ (j : Nat) (w1 : World), j < 128 → (Instr.index 72 (.agg (rowOf .u16 128 U[k])) (.int .i64 (j : Int))).run Try.prog w1 = .ok (.int .u16 (U[k] j)) w1) := fun j w1 hj => index_blk U[k] j w1 hj
          have HK : Hid (k < U.length) := hkl
          obtain ⟨Z2, hZ2⟩ : ∃ Z2, Z2 = Z1 ++ usB (U.take (k + 1)) := ⟨_, rfl⟩
          rw [← hZ2] at hstep
          replace hZ2 : Hid (Z2 = Z1 ++ usB (U.take (k + 1))) := hZ2
          generalize Z1 ++ usB (U.take k) = PP at *
          generalize hfk : U[k] = fk at *
          clear hfk
          obtain ⟨X, hX⟩ : ∃ X, X = rowOf .u16 128 fk := ⟨_, rfl⟩
          have hXe : Hid (X = rowOf .u16 128 fk) := hX
          rw [← hX] at hld hix
          clear hX
          replace hld : Hid ((loadVar 72 ⟨ug, k * 128, none⟩).run Try.prog wr = .ok (.agg X) wr) := hld
          have hrow : Hid (isRow (wr.alloc (.cells X 72)) wr.heap.size 128) := ⟨X, 72, heap_alloc_last _ _, by rw [hXe.out]; exact rowOf_size _ _ _⟩
          have hrin : Hid (rowIn (wr.alloc (.cells X 72)) wr.heap.size = X) := rowIn_at wr X 72 _ rfl
          have O4 : Hid ((wr.alloc (.cells X 72)).ownsRow wa.heap.size 5 1 u3 PP.length (u8s PP)) := hO.out.alloc _
          have B4 : Hid (Below wa.heap.size wa (wr.alloc (.cells X 72))) := hB.out.alloc hB.out.size _
          clear hkl HU
          go_wp2_with (first | (refine wpList_load_run rfl 72 _ rfl ⟨ug, k * 128, none⟩ rfl _ hld.out ?_) | (refine wpList_al72 rfl rfl (by kernel_rfl) ?_) | (refine wpList_st72 rfl _ _ rfl rfl fk X hXe.out rfl rfl ?_) | (refine wpList_ld rfl 72 _ rfl wr.heap.size rfl 128 Try.underlying72 rfl (by kernel_rfl) X hrow.out hrin.out ?_))
          clear hld hrow hrin hO hB
          generalize wr.alloc (.cells X 72) = W4 at *
          go_loopw [3, 52] (fun x y wi => ∃ j : Nat, j ≤ 128 ∧ y = .int .i64 (j : Nat) ∧ Hid (wi.ownsRow wa.heap.size 5 1 x (PP ++ blB fk j).length (u8s (PP ++ blB fk j))) ∧ Hid (Below wa.heap.size wa wi)) (fun _ y _ => (128 - (intOf y).toNat : Nat))
          case atStart => exact ⟨0, by omega, rfl, by rw [show blB fk 0 = [] from rfl, List.append_nil]; exact O4, B4⟩
          case round =>
            clear O4 B4
            obtain ⟨j, hj, rfl, hO, hB⟩ := hrel
            by_cases hjl : j < 128
            · have jl : (j : Int) < 128 := by omega
              have hixj := fun w1 => hix.out j w1 hjl
              obtain ⟨r1, r2⟩ := hrg.out j
              have hst2 : Hid (PP ++ blB fk (j + 1) = PP ++ blB fk j ++ num2 (fk j)) := by rw [Hid, blB_succ, List.append_assoc]
              have hln2 : Hid ((PP ++ blB fk j).length ≤ 100000000) := by rw [Hid, List.length_append, blB_len]; have := hln.out; omega
              have HJ : Hid (j < 128) := hjl
              generalize fk j = z at *
              generalize PP ++ blB fk j = Q0 at *
              clear hjl
              go_wp2_with (go_at_call 45; refine (KA.out _ Q0 z _ hB.out hO.out hln2.out (by omega) (by omega)).mono ?_)
              first | rintro e w5 v5 rfl o5 b5 | rintro e w5 ⟨v5, rfl, o5, b5⟩
              have O5 : Hid (w5.ownsRow wa.heap.size 5 1 v5 (PP ++ blB fk (j + 1)).length (u8s (PP ++ blB fk (j + 1)))) := by rw [Hid, hst2.out]; exact o5
              have B5 : Hid (Below wa.heap.size wa w5) := hB.out.trans b5
              clear o5 b5 hO hB hst2 hixj
              go_wp2
              exact ⟨⟨j + 1, by have := HJ.out; omega, by go_num, O5, B5⟩, by have := HJ.out; simp [intOf]; omega⟩
            · have hjj : j = 128 := by omega
              subst hjj
              have O5 : Hid (wr.ownsRow wa.heap.size 5 1 u3 (Z1 ++ usB (U.take (k + 1))).length (u8s (Z1 ++ usB (U.take (k + 1))))) := by rw [Hid, ← hZ2.out, hstep.out]; exact hO.out
              clear hO hjl
              go_wp2
              refine ⟨⟨_, _, _, _, _, _, _, _, _, _, _, _, _, _, _, _, ⟨k + 1, ?q1, ?q2, O5, hB⟩, rfl⟩, ?q3⟩
              case q1 => have := HK.out; omega
              case q2 => go_num
              case q3 => have := HK.out; simp [intOf]; omega
        · have kl : decide ((k : Int) < (U.length : Int)) = false := decide_eq_false (by omega)
          have kl2 : ¬ ((k : Int) < (U.length : Int)) := by omega
          have hkt : U.take k = U := List.take_of_length_le (by omega)
          have hstr : Hid ((convert 55 9 u3).run Try.prog wr = .ok (.string (strOfNums PKL)) wr) := by
            have := hO.out
            rw [hkt, HPK.out] at this
            exact string_own 55 5 9 this Try.underlying55 under5 Try.underlying9
          have B6 : Hid (Below w.heap.size w wr) := Ba.out.trans (hB.out.mono Ba.out.size)
          clear hO hB hkt hkl
          go_wp2_with (refine wpList_cvs rfl 55 9 _ rfl _ rfl _ hstr.out ?_)
          go_ret
          exact ⟨rfl, B6.out⟩
end Go.Proofs.Ytookbgmolggohaa
