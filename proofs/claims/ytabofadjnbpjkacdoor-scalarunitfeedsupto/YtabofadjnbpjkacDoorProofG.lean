/-
  For every two lists of lists of units, nil ones too, the law ScalarUnitFeeds returns true and leaves its arguments as they were: a decoder of units, handed them in any pieces, tells after each just what is sure to stay, and holds the high unit at the end; at the end all is told; twice; and a nil one does nothing. Conditions: those of the tied card (the library's two tables hold what its text lays; what comes in is of bulk at most 1048576).
-/
import Derived.Test.YtabofadjnbpjkacDoorCards
import Derived.Test.YtabofadjnbpjkacDoorTie
import Derived.Test.YtabofadjnbpjkacDoorLawG
import Derived.WalkKit
import Derived.ProofKit
import Derived.OpenShut
import Derived.ShutString
import Derived.SizedLaws
import Derived.Deep.Matrix
import Derived.Deep.DeepHandedRow
import Derived.Lib.LaidU8
namespace Go.Proofs.YtabofadjnbpjkacDoor
open Go.ChangeShapes Go.WideShapes Go.ChangeAt Go.RowKit
open Go.ChangeMaps (open_string shut_string)
theorem own : ownKnob Tryd.prog.godebug = none := by kernel_rfl
theorem laidOut : laidOutB Tryd.prog = true := by kernel_rfl
theorem firstEq : Go.Pinned.utf8First = Lib.firstData := by kernel_rfl
theorem acceptEq : (Rows.laid_unicode_utf8_acceptRanges : DataW Unit) = Lib.acceptData := by kernel_rfl
theorem u8extra : U8Extra Tryd.prog Tryd.lays260_ren := { n3 := by kernel_rfl, n4 := by kernel_rfl, y3 := by kernel_rfl, y4 := by kernel_rfl, c5 := by kernel_rfl, c119 := by kernel_rfl, c138 := by kernel_rfl }
/-- What the row's list gives: the two tables' cells. -/
theorem tables {W : World} (h : laidMetH Tryd.prog Rows.scalarUnitFeedsUptoRow.laid W) : Lib.Utf8Tabs 0 1 W := by
  rw [MakeChecks.laidMetH_plain _ _ _ (by kernel_rfl)] at h
  refine utf8Tabs_of_reads Tryd.lays260 u8extra ?_ ?_
  · rw [← firstEq]
    exact Lib.laidMet.reads h (List.Mem.tail _ (List.Mem.head _))
  · rw [← acceptEq]
    exact Lib.laidMet.reads h (List.Mem.head _)
theorem cells35 : Tryd.prog.cellsOf 35 = 1 := by kernel_rfl
theorem cells30 : Tryd.prog.cellsOf 30 = 1 := by kernel_rfl
theorem wf_u16 (n : Int) (h : (Lit.int .u16 n).wf = true) : 0 ≤ n ∧ n < 65536 := by
  have e1 : IntKind.u16.min = 0 := by decide
  have e2 : IntKind.u16.max = 65535 := by decide
  simp [Lit.wf, e1, e2] at h
  omega
theorem bulk_lits {H : Type} (k : IntKind) : ∀ zs : List Int, Rows.uptoBulkAll (H := H) (lits k zs) = zs.length
  | [] => rfl
  | z :: l => by
    have e : lits (H := H) k (z :: l) = .lit (.int k z) :: lits k l := rfl
    rw [e]
    simp only [Rows.uptoBulkAll, Rows.uptoBulk, bulk_lits k l, List.length_cons]
    omega
theorem bulk_row {H : Type} (k : IntKind) (A : Option Addr) (L : Nat) (zs : List Int) (hA : A = none → zs = []) : (zs.take L).length + 1 ≤ Rows.uptoBulk (H := H) (Deep.intRow k A L zs) := by
  unfold Deep.intRow
  cases A with
  | none => rw [hA rfl]; simp [Rows.uptoBulk]
  | some a => simp only [Rows.uptoBulk, bulk_lits]; omega
theorem bulk_rows {H : Type} (k : IntKind) (A : Nat → Option Addr) (L : Nat → Nat) (Z : Nat → List Int) : ∀ l : List Nat, (∀ r ∈ l, A r = none → Z r = []) → (l.map fun r => (Z r).take (L r)).flatten.length + l.length ≤ Rows.uptoBulkAll (H := H) (l.map fun r => Deep.intRow k (A r) (L r) (Z r))
  | [], _ => by simp [Rows.uptoBulkAll]
  | r :: l, h => by
    have i1 := bulk_rows (H := H) k A L Z l (fun x hx => h x (List.mem_cons_of_mem _ hx))
    have i2 := bulk_row (H := H) k (A r) (L r) (Z r) (h r (List.mem_cons_self ..))
    simp only [List.map_cons, List.flatten_cons, List.length_append, List.length_cons, Rows.uptoBulkAll]
    omega
/-- A list of lists of units that came in. -/
theorem open_urows {H : Type} {enc : TypeId × Value → H} {W : World} {base : Nat} {v : Value} {d : DataW H} {p : List MemPlace} (hval : Value.okWide Tryd.prog W .any base 26 v) (h : DataW.Trod enc Tryd.prog W 0 (fun _ => true) true 26 v d p) :
    ∃ rs : List (List Int), URows W v rs ∧ (∀ z ∈ rs.flatten, 0 ≤ z ∧ z < 65536) ∧ rs.flatten.length + rs.length ≤ Rows.uptoBulk d := by
  obtain ⟨a0, len, cap, rfl⟩ := okWide_slice Tryd.underlying26 hval
  obtain ⟨fuel, hf⟩ := h
  rcases Deep.open_int_rows Tryd.underlying26 Tryd.underlying35 Tryd.underlying30 cells35 cells30 hf with ⟨hcs, hx⟩ | ⟨a, len', cap', A, L, C, Z, hcs, _, hl, hm, hx, hrow⟩
  · simp [Value.cells] at hcs
    obtain ⟨rfl, rfl, rfl⟩ := hcs
    exact ⟨[], ⟨none, 0, rfl, fun h => by simp at h⟩, fun z hz => by simp at hz, by simp⟩
  · simp [Value.cells] at hcs
    obtain ⟨rfl, rfl, rfl⟩ := hcs
    simp only [Prod.mk.injEq] at hx
    have hlen : ((List.range len).map fun r => (Z r).take (L r)).length = len := by simp
    refine ⟨(List.range len).map fun r => (Z r).take (L r), ⟨some a, cap, by rw [hlen], fun hp => ?_⟩, fun z hz => ?_, ?_⟩
    · rw [hlen] at hp ⊢
      obtain ⟨b, off, spot⟩ := a
      have h0 := (hrow 0 (by omega)).1
      have hspot : spot = none := by simpa [Addr.add] using World.cell?_spot h0
      subst hspot
      refine ⟨b, off, rfl, by simpa [Addr.add] using World.block_lt_of_cell? W _ h0, fun j hj => ?_⟩
      obtain ⟨hc, h1, h2, h3, h4, h5, h6⟩ := hrow j (by omega)
      rw [Go.WideShapes.add_plain] at hc
      refine ⟨_, hc, ?_⟩
      have eg : ((List.range len).map fun r => (Z r).take (L r)).getD j [] = (Z j).take (L j) := by
        simp [List.getD, hj]
      rw [eg]
      cases hA : A j with
      | none =>
        have hc0 := h5 hA
        refine .inl ⟨by rw [show L j = 0 by omega, hc0], ?_⟩
        rw [show L j = 0 by omega]; rfl
      | some ad =>
        have hl2 : ((Z j).take (L j)).length = L j := by rw [List.length_take]; omega
        refine .inr ⟨ad, C j, by rw [hl2], fun c hc' => ?_⟩
        rw [hl2] at hc'
        rw [(h6 ad hA).2 c (by omega)]
        simp [List.getD, List.getElem?_take_of_lt hc']
    · simp only [List.mem_flatten, List.mem_map, List.mem_range] at hz
      obtain ⟨l, ⟨r, hr, rfl⟩, hz⟩ := hz
      exact wf_u16 z ((hrow r (by omega)).2.2.2.2.1 z (List.mem_of_mem_take hz))
    · rw [hx.1, hlen]
      have := bulk_rows (H := H) .u16 A L Z (List.range len) (fun r hr hA => by
        have hq := hrow r (by have := List.mem_range.1 hr; omega)
        exact List.eq_nil_of_length_eq_zero (by rw [hq.2.2.2.1]; exact hq.2.2.2.2.2.1 hA))
      rw [List.length_range] at this
      simp only [Rows.uptoBulk]
      omega

set_option maxRecDepth 100000 in
/-- What the walk gives, for every argument and every world that holds the tables. -/
theorem contractF (H : Type) (enc : TypeId × Value → H) (W : World) (base : Nat) (args : Array Value) (ds gs : List (DataW H)) (before : List MemPlace)
    (hval : ∀ (j : Nat) t v, Tryd.f4.params[j]? = some t → args[j]? = some v → Value.okWide Tryd.prog W .any base t v)
    (hW : DataW.Whole enc Tryd.prog Tryd.f4.params.toList Rows.scalarUnitFeedsSpec.vars false W args.toList ds gs before) (hL : laidMetH Tryd.prog Rows.scalarUnitFeedsUptoRow.laid W) (hcond : Rows.uptoSmall H (ds ++ gs) = true) :
    Calls Tryd.prog 4 args W fun e W' => ∃ v, e = .returned v ∧ Rows.scalarUnitFeedsSpec.post enc Tryd.prog Tryd.f4 false true false false W args v W' := by
  have hW' := hW
  obtain ⟨p, q, hA0, hV, rfl, hfz, hnd⟩ := hW
  have hA : DataW.TrodAll enc Tryd.prog W 0 (fun _ => true) true Tryd.f4.params.toList args.toList ds p := hA0
  rw [Tryd.params4] at hA hval
  obtain ⟨v0, vs0, d0, ds0, p0, q0, hargs, rfl, rfl, h0, r0⟩ := trodAll_cons hA
  obtain ⟨v1, vs1, d1, ds1, p1, q1, rfl, rfl, rfl, h1, r1⟩ := trodAll_cons r0
  obtain ⟨rfl, rfl, rfl⟩ := trodAll_nil r1
  obtain rfl : args = #[v0, v1] := by cases args; simp_all
  obtain ⟨rfl, rfl⟩ := trodVars_none hV
  have k0 := h0
  have lt0 : ∀ x ∈ p0, x.block < W.heap.size := by obtain ⟨m, hm⟩ := k0; exact DataW.trod_lt m _ _ _ hm
  have k1 := h1
  have lt1 : ∀ x ∈ p1, x.block < W.heap.size := by obtain ⟨m, hm⟩ := k1; exact DataW.trod_lt m _ _ _ hm
  obtain ⟨ss0, hR0, hu0, hb0⟩ := open_urows (hval 0 26 v0 rfl rfl) h0
  obtain ⟨ss1, hR1, hu1, hb1⟩ := open_urows (hval 1 26 v1 rfl rfl) h1
  have hbd : Rows.uptoBulkAll [d0, d1] ≤ 1048576 := of_decide_eq_true hcond
  simp only [Rows.uptoBulkAll] at hbd
  have hT := tables hL
  have hg : 2 ≤ W.heap.size := by
    have := hT.2 0 (by decide)
    have := World.block_lt_of_cell? W _ this.1
    simp at this
    omega
  clear hA0
  refine (lawG ss0 ss1 v0 v1 W hR0 hR1 hu0 hu1 (by omega) (by omega) (by omega) (by omega) hT hg).mono fun e W' ⟨he, bel⟩ => ?_
  subst he
  exact ⟨_, rfl, _, _, _, [], _, [], hW', trodAll_mk1 (shut_bool Tryd.underlying4 _), (trodAll_cons_mk (Below.trod laidOut (by kernel_rfl) (of_decide_eq_true (by kernel_rfl)) k0 bel lt0) (trodAll_cons_mk (Below.trod laidOut (by kernel_rfl) (of_decide_eq_true (by kernel_rfl)) k1 bel lt1) trodAll_mk0)), rfl, bel.frame _, fun h => by cases h⟩

/-- The two tables' cells, for the witness. -/
def firstRow : Array Value := Array.ofFn (n := 256) fun i => .int .u8 (Lib.firstT i.val)
def acceptRow : Array Value := Array.ofFn (n := 32) fun i => .int .u8 (if i.val % 2 = 0 then Lib.accLo (i.val / 2) else Lib.accHi (i.val / 2))
/-- A block with other cells. -/
def withRow (r : Array Value) : Obj → Obj
  | .cells _ t frozen => .cells r t frozen
  | o => o
set_option maxRecDepth 100000 in
theorem laid_metF (os : Os) : laidMet Tryd.prog Rows.scalarUnitFeedsUptoRow.laid (({ World.holding Tryd.prog os ⟨#[], #[], []⟩ with heap := ((World.holding Tryd.prog os ⟨#[], #[], []⟩).heap.modify 0 (withRow firstRow)).modify 1 (withRow acceptRow) } : World).forCall (fun _ _ => 0) ⟨#[], #[.slice none 0 0, .slice none 0 0], []⟩).memory :=
  laidMet_of_run' 8 (by kernel_rfl) (by kernel_rfl)
set_option maxRecDepth 100000 in
theorem readsF (os : Os) {H : Type} (enc : TypeId × Value → H) : ∃ places, DataW.whole enc Tryd.prog (({ World.holding Tryd.prog os ⟨#[], #[], []⟩ with heap := ((World.holding Tryd.prog os ⟨#[], #[], []⟩).heap.modify 0 (withRow firstRow)).modify 1 (withRow acceptRow) } : World).forCall (fun _ _ => 0) ⟨#[], #[.slice none 0 0, .slice none 0 0], []⟩).memory Tryd.f4.params.toList Rows.scalarUnitFeedsSpec.vars false (#[.slice none 0 0, .slice none 0 0] : Array Value).toList 8 = some ([.nil, .nil], [], places) :=
  ⟨[], by kernel_rfl⟩
set_option maxRecDepth 100000 in
theorem liftedF (os : Os) (started : os.Started) (H : Type) (enc : TypeId × Value → H) (F : Stop.Interp) :
    ReturnsInHanded {} Tryd.checked os 4 .any ((Rows.OpenSpec.upto Rows.scalarUnitFeedsSpec).preRow enc Tryd.prog Tryd.f4 Rows.scalarUnitFeedsUptoRow.domain false Rows.scalarUnitFeedsUptoRow.laid) (((Rows.OpenSpec.upto Rows.scalarUnitFeedsSpec).at F).post enc Tryd.prog Tryd.f4 false true false false) := by
  obtain ⟨places, hx⟩ := readsF os enc
  refine returnsInHanded_of_row (C := Tryd.checked) (s := (Rows.OpenSpec.upto Rows.scalarUnitFeedsSpec)) own started (by kernel_rfl) Tryd.func4
    (witness_row_at (enc := enc) (C := Tryd.checked) false { World.holding Tryd.prog os ⟨#[], #[], []⟩ with heap := ((World.holding Tryd.prog os ⟨#[], #[], []⟩).heap.modify 0 (withRow firstRow)).modify 1 (withRow acceptRow) } #[.slice none 0 0, .slice none 0 0] rfl (by kernel_rfl) (by kernel_rfl) (by kernel_rfl)
      (OpenSpec.preRow_of_cond 8 hx (by kernel_rfl) (fun k hk => by cases hk; kernel_rfl) (by kernel_rfl) (laid_metF os))) ?_
  intro W base args ds gs before hval hW _ hcond _ hL _ _
  exact contractF H enc W base args ds gs before hval hW hL (hcond _ rfl)
theorem scalarUnitFeedsUpto_said : Rows.ScalarUnitFeedsUptoSaid :=
  OpenClaim.holds_of_cond 4 Tryd.f4 rfl rfl rfl rfl rfl rfl rfl ⟨rfl, rfl, rfl, rfl, rfl⟩ rfl rfl rfl rfl rfl (by kernel_rfl) Tryd.func4 (by kernel_rfl)
    (of_decide_eq_true (by kernel_rfl)) (by unfold Func.isWrapper; first | (rw [if_pos (by decide +kernel)]; kernel_rfl) | (rw [if_neg (by decide +kernel)]; exact ⟨rfl, rfl⟩))
    (fun os started H enc _ F => by rw [OpenClaim.pre_eq_preRow]; exact liftedF os started H enc F)
/-- No parameter wants a stand-in; the program's own looks are off. -/
theorem plainF (f : FuncId) (fn : Func) (hf : Tryd.pinned.checked.prog.funcNamed Rows.scalarUnitFeedsUptoRow.func = some f) (hfn : Tryd.pinned.checked.prog.funcs[f]? = some fn) :
    false = Tryd.pinned.checked.prog.looks [] ∧ ∀ (j : Nat) t, fn.params[j]? = some t → Tryd.pinned.checked.prog.wantsStandIn t = false := by
  obtain rfl : f = 4 := Option.some.inj ((show Tryd.prog.funcNamed Rows.scalarUnitFeedsUptoRow.func = some 4 by kernel_rfl).symm.trans hf) |>.symm
  obtain rfl : fn = Tryd.f4 := (Option.some.inj (Tryd.func4.symm.trans hfn)).symm
  refine ⟨by kernel_rfl, fun j t ht => ?_⟩
  rw [Tryd.params4] at ht
  have hm : t ∈ [26, 26] := by simpa using Array.mem_of_getElem? ht
  have hall : ([26, 26].all fun u => !Tryd.prog.wantsStandIn u) = true := by kernel_rfl
  exact (show Tryd.prog.wantsStandIn t = false by simpa using List.all_eq_true.1 hall t hm)
theorem scalarUnitFeedsUpto_card : Rows.ScalarUnitFeedsUptoCardSaid :=
  Claim7.holds_tied_plain_at .later [] _ _ _ _ scalarUnitFeedsUpto_said (fun _ h => by cases h) (by kernel_rfl) (fun _ h => by cases h) scalarUnitFeedsUpto_row_tie rfl ⟨rfl, rfl⟩ (by kernel_rfl) rfl plainF (by kernel_rfl)
#print axioms scalarUnitFeedsUpto_card
end Go.Proofs.YtabofadjnbpjkacDoor
