/-
  The contracts of the set that forms code, of Form and of FormDecode. Condition: the text is no longer than a third of what one that comes in can be (Form), or no longer than 2^47 bytes (FormDecode).
-/
import Derived.Test.YtoliiccmfmgmlaaDoorNo
import Derived.Test.YtoliiccmfmgmlaaDoorRpl
import Derived.Test.YtoliiccmfmgmlaaDoorTwo
import Derived.Test.YtoliiccmfmgmlaaDoorNm
import Derived.Test.YtoliiccmfmgmlaaDoorTn
namespace Go.Proofs.YtoliiccmfmgmlaaDoor
open Go.RowKit
def aggW (p : Nat → Bool) : Array Value := #[.int .u64 (wd p 0), .int .u64 (wd p 1), .int .u64 (wd p 2), .int .u64 (wd p 3)]
def minusP (p q : Nat → Bool) : Nat → Bool := fun j => p j && !q j
def orP (p q : Nat → Bool) : Nat → Bool := fun j => p j || q j
theorem minus_w (p q : Nat → Bool) (w : World) : Calls Tryd.prog 28 #[.agg (aggW p), .agg (aggW q)] w fun e w' => e = .returned (.agg (aggW (minusP p q))) ∧ Below w.heap.size w w' := by
  have key := minus_any (wd p) (wd q) w
  rw [minus_wd, minus_wd, minus_wd, minus_wd] at key
  exact key
def agg2 (p q : Nat → Bool) : Array Value := #[.int .u64 (wd p 0), .int .u64 (wd p 1), .int .u64 (wd p 2), .int .u64 (wd p 3), .int .u64 (wd q 0), .int .u64 (wd q 1), .int .u64 (wd q 2), .int .u64 (wd q 3)]
theorem cell_blk {w : World} {g k : Nat} {cs : Array Value} {tt : TypeId} (h : w.heap[g]? = some (.cells cs tt (0, 0))) : w.cell? ⟨g, k, none⟩ = cs[k]? := by simp [World.cell?, h]
theorem blk_lt {w : World} {g : Nat} {o : Obj} (h : w.heap[g]? = some o) : g < w.heap.size := (Array.getElem?_eq_some_iff.1 h).1
theorem union2_w (p q : Nat → Bool) (g c : Nat) (tt : TypeId) (w : World) (h : w.heap[g]? = some (.cells (agg2 p q) tt (0, 0))) : Calls Tryd.prog 19 #[.slice (some ⟨g, 0, none⟩) 2 c] w fun e w' => e = .returned (.agg (aggW (orP p q))) ∧ Below w.heap.size w w' := by
  have key := union_any (fun i => if i = 0 then wd p else wd q) g 2 c w (by omega) (blk_lt h) fun i hi j hj => by
    rw [cell_blk h]
    match i, hi, j, hj with
    | 0, _, 0, _ => rfl
    | 0, _, 1, _ => rfl
    | 0, _, 2, _ => rfl
    | 0, _, 3, _ => rfl
    | 1, _, 0, _ => rfl
    | 1, _, 1, _ => rfl
    | 1, _, 2, _ => rfl
    | 1, _, 3, _ => rfl
  have he : ∀ i, orTo (fun i => if i = 0 then wd p else wd q) 2 i = wd (orP p q) i := fun i => by
    show orS (orS (fun _ => 0) (wd p)) (wd q) i = wd (fun j => p j || q j) i
    rw [← or_wd]
    congr 1
    funext k
    have h0 : (fun _ : Nat => (0 : Int)) = wd (fun _ => false) := by funext k; exact (wd_none k).symm
    rw [h0, or_wd]
    simp
  rw [he, he, he, he] at key
  exact key
/-- A store of a whole row. -/
theorem wp_stored {P : Program} {Q : Exit → Act → World → Prop} {o : Oper} {a : Act} {w : World} {K : Act → World → Prop} (ty : TypeId) (t : Tmp) (y : Operand) (ho : o.op = .store ty (.tmp t) y) (hd : o.dst = none) (g : Nat) (cs0 cs : Array Value) (tt : TypeId)
    (ht : a.tmps[t]? = some (.pointer (some ⟨g, 0, none⟩))) (hy : a.eval y = .agg cs) (hg : w.heap[g]? = some (.cells cs0 tt (0, 0))) (hsz : cs0.size = cs.size) (hi : (P.info? ty).map (·.size) = some cs.size) (h1 : cs.all (·.oneCell') = true) (h : K (a.put none undef) (w.setRow g cs)) : Oper.wp P o a w K Q := by
  have he : a.eval (.tmp t) = .pointer (some ⟨g, 0, none⟩) := by simp [Act.eval, ht]
  have hrun : (storeVar ty ⟨g, 0, none⟩ (.agg cs)).run P w = .ok () (w.setRow g cs) := run_storeVar_row w g tt ty cs0 cs hg hi hsz h1
  unfold Oper.wp execOp
  simp only [ho, he, hy, Instr.storeAt, Instr.sureAddr, Sem.run_bind, Sem.run_pure, Result.andThen_ok, hrun, Oper.upon]
  rw [hd]
  exact h
theorem below_set {B m : Nat} {w V : World} {c : Array Value} (h : Below B w V) (hm : B ≤ m) : Below B w (V.setRow m c) :=
  h.trans ⟨rfl, rfl, rfl, by simp, fun k hk => setRow_other V m k c (by omega)⟩
theorem one_w (p : Nat → Bool) : (aggW p).all (·.oneCell') = true := by simp [aggW, Value.oneCell']
/-- A slice of two at the front of a block that lies above B. -/
def slAt (B : Nat) (cs : Array Value) : Value → World → Prop := fun v w => ∃ g c, v = .slice (some ⟨g, 0, none⟩) 2 c ∧ w.heap[g]? = some (.cells cs 27 (0, 0)) ∧ B < g
theorem Stays.slAt {B : Nat} {cs : Array Value} : Stays (slAt B cs) := fun _ _ _ ⟨g, c, e, h, hB⟩ hb => ⟨g, c, e, below_at h hb, hB⟩
/-- It stays when the row of block B is stored. -/
def Off (B : Nat) (c : Array Value) (p : Value → World → Prop) : Prop := ∀ v w, p v w → p v (w.setRow B c)
theorem Off.isV {B : Nat} {c : Array Value} {t : Value} : Off B c (isV t) := fun _ _ h => h
theorem Off.slAt {B : Nat} {c cs : Array Value} : Off B c (slAt B cs) := fun _ w ⟨g, c', e, h, hB⟩ => ⟨g, c', e, (setRow_other w B g c (by omega)).trans h, hB⟩
theorem nthP_off {B : Nat} {c : Array Value} {l : List (Value → World → Prop)} (h : AllP (Off B c) l) (i : Nat) (v : Value) (w : World) (hp : nthP l i v w) : nthP l i v (w.setRow B c) := AllP.at (q := Off B c) (fun _ _ h => h) l h i v w hp
def l14 (B : Nat) : List (Value → World → Prop) := [isV (.agg (aggW (setP 8))), isV (.agg (aggW (fromTo 37 (37 + 1)))), slAt B (agg2 (setP 8) (fromTo 37 (37 + 1))), isV (.agg (aggW (orP (setP 8) (fromTo 37 (37 + 1))))), isV (.agg (aggW (fromTo 32 (32 + 1)))), isV (.agg (aggW (minusP (orP (setP 8) (fromTo 37 (37 + 1))) (fromTo 32 (32 + 1)))))]
theorem l14_stays {B : Nat} : AllP Stays (l14 B) := ⟨Stays.isV, Stays.isV, Stays.slAt, Stays.isV, Stays.isV, Stays.isV, trivial⟩
/-- What is said of memory: the answer's words, ahead of and behind the store; the named set; what was there. -/
def g14 (w : World) (C : Nat) : (Nat → Bool) → World → Prop :=
  fun s v => (∃ cs, v.heap[w.heap.size]? = some (.cells cs 27 (0, 0)) ∧ cs.size = 4 ∧ (s 6 = true → cs = aggW (minusP (orP (setP 8) (fromTo 37 (37 + 1))) (fromTo 32 (32 + 1))))) ∧ v.heap[C]? = some (.cells (aggW (setP 8)) 27 (0, 0)) ∧ Below w.heap.size w v
theorem g14_calm {w : World} {C : Nat} {l : List (Value → World → Prop)} (hl : AllP Stays l) (i : Nat) (hi : i ≠ 6) : Calm (g14 w C) (fun _ => nthP l) i := by
  refine ⟨fun s v v' _ h hb => ?_, fun s j u v v' _ _ hu hb => nthP_stays hl j u v v' hu hb⟩
  obtain ⟨⟨cs, h1, h2, h3⟩, h4, h5⟩ := h
  have e : mark s i 6 = s 6 := if_neg (Ne.symm hi)
  exact ⟨⟨cs, below_at h1 hb, h2, by rw [e]; exact h3⟩, below_at h4 hb, h5.trans (hb.mono h5.size)⟩
/-- The set that forms code, the sign with it, without the blank. -/
def fS : Nat → Bool := minusP (orP (setP 8) (fromTo 37 (37 + 1))) (fromTo 32 (32 + 1))
set_option maxRecDepth 100000 in
set_option maxHeartbeats 2000000 in
theorem formSet_any (w : World) : Calls Tryd.prog 14 #[] w fun e w' => e = .returned (.agg (aggW fS)) ∧ Below w.heap.size w w' := by
  have k := fun w => named8 w
  go_enter Tryd.func14, Tryd.ntmps14
  go_wp2_with (go_at_call 27; refine (k _).mono ?_)
  rintro e w1 ⟨rfl, b1⟩
  go_wp2_with fail
  rename_i Q' K' hcont
  obtain ⟨C, hC⟩ : ∃ C, w1.heap.size = C := ⟨_, rfl⟩
  have z1 := b1.size
  rw [World.size_alloc] at z1
  have hB0 : (w1.alloc (.cells #[.int .u64 (wd (setP 8) 0), .int .u64 (wd (setP 8) 1), .int .u64 (wd (setP 8) 2), .int .u64 (wd (setP 8) 3)] 27)).heap[w.heap.size]? = some (.cells #[.int .u64 0, .int .u64 0, .int .u64 0, .int .u64 0] 27 (0, 0)) := by
    rw [Below.heap_alloc _ _ _ (by omega), b1.block _ (by simp)]; exact heap_alloc_last _ _
  have hC0 : (w1.alloc (.cells #[.int .u64 (wd (setP 8) 0), .int .u64 (wd (setP 8) 1), .int .u64 (wd (setP 8) 2), .int .u64 (wd (setP 8) 3)] 27)).heap[C]? = some (.cells (aggW (setP 8)) 27 (0, 0)) := by
    rw [← hC]; exact heap_alloc_last _ _
  have hbw : Below w.heap.size w (w1.alloc (.cells #[.int .u64 (wd (setP 8) 0), .int .u64 (wd (setP 8) 1), .int .u64 (wd (setP 8) 2), .int .u64 (wd (setP 8) 3)] 27)) := (((Below.refl _ _).alloc (Nat.le_refl _) _).trans (b1.mono (by simp))).alloc (by omega) _
  obtain ⟨w0, hw0⟩ : ∃ w0, w1.alloc (.cells #[.int .u64 (wd (setP 8) 0), .int .u64 (wd (setP 8) 1), .int .u64 (wd (setP 8) 2), .int .u64 (wd (setP 8) 3)] 27) = w0 := ⟨_, rfl⟩
  rw [hw0] at hB0 hC0 hbw ⊢
  have hCB : w.heap.size < C := by omega
  clear hw0
  refine wp_abs 13 rfl fun a0 hz0 hd hsl => ?_
  have s0 : a0.tmps[0]? = some (.pointer (some ⟨w.heap.size, 0, none⟩)) := hsl 0
  have s1 : a0.tmps[1]? = some (.pointer (some ⟨C, 0, none⟩)) := (hsl 1).trans (by rw [← hC]; rfl)
  replace hd : a0.defers = [] := hd
  clear hsl hC
  have HC : Shut _ := hcont
  clear hcont
  have hcalm := fun (i : Nat) (h : i ≠ 6) => g14_calm (w := w) (C := C) (l14_stays (B := w.heap.size)) i h
  refine wp_region_turn (g14 w C) (fun _ => nthP (l14 w.heap.size)) 13 hz0 (by kernel_rfl) (by kernel_rfl) (fun w1 hb1 hs1 q hq => ⟨⟨_, below_at hB0 hb1, rfl, fun e => by rw [hq 6] at e; cases e⟩, below_at hC0 hb1, hbw.trans (hb1.mono hbw.size)⟩) ⟨?o0, ?o1, ?o2, ?o3, ?o4, ?o5, ?o6, trivial⟩ ?done
  case o0 =>
    refine FlowOp4.plain (hcalm 0 (by decide)) fun a1 w4 s4 cx => ?_
    have s1 := cx.keep 1 _ (by kernel_rfl) s1
    refine ⟨wanted_none rfl, fun K hK => ?_⟩
    exact wp_loaded _ _ rfl C (ev_tmp s1) _ _ _ _ cx.ground.2.1 Tryd.underlying27 rfl (by kernel_rfl) (hK.out _ _ rfl (Below.refl _ _))
  case o1 =>
    refine FlowOp4.plain (hcalm 1 (by decide)) fun a1 w4 s4 cx => ?_
    refine ⟨wanted_none rfl, fun K hK => ?_⟩
    refine wp_gen_call [] trivial (vs := #[.int .u8 37]) (f := 20) (by kernel_rfl) (fun w => by kernel_rfl) ?_
    refine (only_any 37 w4 (by omega)).mono ?_
    rintro e w5 ⟨rfl, hb5⟩
    exact ⟨_, rfl, hK.out _ _ rfl hb5⟩
  case o2 =>
    refine FlowOp4.plain (hcalm 2 (by decide)) fun a1 w4 s4 cx => ?_
    obtain ⟨v7, s7, p7⟩ := cx.slot 0 7 (by kernel_rfl)
    replace p7 : v7 = .agg (aggW (setP 8)) := p7
    subst p7
    obtain ⟨v8, s8, p8⟩ := cx.slot 1 8 (by kernel_rfl)
    replace p8 : v8 = .agg (aggW (fromTo 37 (37 + 1))) := p8
    subst p8
    have gs := cx.ground.2.2.size
    refine ⟨wanted_none rfl, fun K hK => ?_⟩
    refine wp_gen [(7, .agg (aggW (setP 8))), (8, .agg (aggW (fromTo 37 (37 + 1))))] ⟨s7, s8, trivial⟩ (by kernel_rfl) (v := .slice (some ⟨w4.heap.size, 0, none⟩) 2 2) (w' := w4.alloc (.cells (agg2 (setP 8) (fromTo 37 (37 + 1))) 27)) (by kernel_rfl) ?_
    have hl := blk_lt cx.ground.2.1
    exact hK.out _ _ ⟨_, _, rfl, heap_alloc_last _ _, by omega⟩ ((Below.refl _ _).alloc (Nat.le_refl _) _)
  case o3 =>
    refine FlowOp4.plain (hcalm 3 (by decide)) fun a1 w4 s4 cx => ?_
    obtain ⟨v9, s9, p9⟩ := cx.slot 2 9 (by kernel_rfl)
    obtain ⟨g9, c9, rfl, k9, _⟩ : slAt w.heap.size (agg2 (setP 8) (fromTo 37 (37 + 1))) v9 w4 := p9
    refine ⟨wanted_none rfl, fun K hK => ?_⟩
    refine wp_gen_call [(9, .slice (some ⟨g9, 0, none⟩) 2 c9)] ⟨s9, trivial⟩ (vs := #[.slice (some ⟨g9, 0, none⟩) 2 c9]) (f := 19) (by kernel_rfl) (fun w => by kernel_rfl) ?_
    refine (union2_w (setP 8) (fromTo 37 (37 + 1)) g9 c9 27 w4 k9).mono ?_
    rintro e w5 ⟨rfl, hb5⟩
    exact ⟨_, rfl, hK.out _ _ rfl hb5⟩
  case o4 =>
    refine FlowOp4.plain (hcalm 4 (by decide)) fun a1 w4 s4 cx => ?_
    refine ⟨wanted_none rfl, fun K hK => ?_⟩
    refine wp_gen_call [] trivial (vs := #[.int .u8 32]) (f := 20) (by kernel_rfl) (fun w => by kernel_rfl) ?_
    refine (only_any 32 w4 (by omega)).mono ?_
    rintro e w5 ⟨rfl, hb5⟩
    exact ⟨_, rfl, hK.out _ _ rfl hb5⟩
  case o5 =>
    refine FlowOp4.plain (hcalm 5 (by decide)) fun a1 w4 s4 cx => ?_
    obtain ⟨v10, s10, p10⟩ := cx.slot 3 10 (by kernel_rfl)
    replace p10 : v10 = .agg (aggW (orP (setP 8) (fromTo 37 (37 + 1)))) := p10
    subst p10
    obtain ⟨v11, s11, p11⟩ := cx.slot 4 11 (by kernel_rfl)
    replace p11 : v11 = .agg (aggW (fromTo 32 (32 + 1))) := p11
    subst p11
    refine ⟨wanted_none rfl, fun K hK => ?_⟩
    refine wp_gen_call [(10, .agg (aggW (orP (setP 8) (fromTo 37 (37 + 1))))), (11, .agg (aggW (fromTo 32 (32 + 1))))] ⟨s10, s11, trivial⟩ (vs := #[.agg (aggW (orP (setP 8) (fromTo 37 (37 + 1)))), .agg (aggW (fromTo 32 (32 + 1)))]) (f := 28) (by kernel_rfl) (fun w => by kernel_rfl) ?_
    refine (minus_w (orP (setP 8) (fromTo 37 (37 + 1))) (fromTo 32 (32 + 1)) w4).mono ?_
    rintro e w5 ⟨rfl, hb5⟩
    exact ⟨_, rfl, hK.out _ _ rfl hb5⟩
  case o6 =>
    refine FlowOp4.turn fun a1 w4 s4 cx => ?_
    have s0 := cx.keep 0 _ (by kernel_rfl) s0
    obtain ⟨v12, s12, p12⟩ := cx.slot 5 12 (by kernel_rfl)
    replace p12 : v12 = .agg (aggW (minusP (orP (setP 8) (fromTo 37 (37 + 1))) (fromTo 32 (32 + 1)))) := p12
    subst p12
    refine ⟨wanted_none rfl, fun K hK => ?_⟩
    obtain ⟨⟨cs, hg, hz, _⟩, h1, hbl⟩ := cx.ground
    refine wp_stored 27 0 _ rfl rfl w.heap.size cs (aggW (minusP (orP (setP 8) (fromTo 37 (37 + 1))) (fromTo 32 (32 + 1)))) 27 s0 (ev_tmp s12) hg hz (by kernel_rfl) (one_w _) (hK.out undef _ ⟨⟨_, setRow_heap _ _ _ _ _ _ hg, rfl, fun _ => rfl⟩, (setRow_other _ _ _ _ (by omega)).trans h1, below_set hbl (Nat.le_refl _)⟩ trivial fun j u _ hu => ?_)
    exact nthP_off (l := l14 w.heap.size) ⟨Off.isV, Off.isV, Off.slAt, Off.isV, Off.isV, Off.isV, trivial⟩ j u _ hu
  case done =>
    intro a1 w1 q hall hgr hsz hdf hkp hgot
    obtain ⟨⟨cs, hg, hcs, hrow⟩, _, hbl⟩ := hgr
    obtain rfl := hrow (hall 6 (by decide))
    replace s0 := (hkp 0 (by kernel_rfl)).trans s0
    replace HC := HC.out a1 w1
    refine HC ?_
    clear HC
    refine wp_ret ?_
    refine bodyPost_ret (v := .agg (aggW fS)) (results_ld Tryd.results14 _ _ w.heap.size 4 (by simp [s0]) Tryd.underlying27 rfl (by kernel_rfl) _ ⟨_, _, hg, rfl⟩ (by unfold rowIn; rw [hg]; rfl)) (hdf.trans hd) ⟨rfl, hbl⟩
set_option maxHeartbeats 1000000 in
theorem formBy_any (s : ByteArray) (w : World) (hs : s.size ≤ 46912496100000) : Calls Tryd.prog 13 #[.string s, .agg (aggW fS)] w fun e w' => e = .returned (.string (sw 32 43 (encB fS s))) ∧ Below w.heap.size w w' := by
  have hz : (encB fS s).size ≤ 140737488355328 := by have : (encB fS s).size ≤ 3 * s.size := encT_size fS s s.size; omega
  have k12 := fun w => enc_any fS s w hs
  have k17 := fun w => replaceAll_one (encB fS s) 32 43 w (by decide) hz
  obtain ⟨E, hE⟩ : ∃ E, encB fS s = E := ⟨_, rfl⟩
  rw [hE] at k12 k17 ⊢
  obtain ⟨D, hD⟩ : ∃ D, sw 32 43 E = D := ⟨_, rfl⟩
  rw [hD] at k17 ⊢
  obtain ⟨a, ha⟩ : ∃ a, wd fS 0 = a := ⟨_, rfl⟩
  obtain ⟨b, hb⟩ : ∃ b, wd fS 1 = b := ⟨_, rfl⟩
  obtain ⟨c, hc⟩ : ∃ c, wd fS 2 = c := ⟨_, rfl⟩
  obtain ⟨d, hd⟩ : ∃ d, wd fS 3 = d := ⟨_, rfl⟩
  unfold aggW
  rw [ha, hb, hc, hd] at k12 ⊢
  clear hz hE hD ha hb hc hd
  go_enter Tryd.func13, Tryd.ntmps13
  go_wp2_with (go_at_call 12; refine (k12 _).mono ?_)
  rintro e w1 ⟨rfl, b1⟩
  have B1 : Hid (Below w.heap.size w w1) := ((Below.refl _ _).alloc (Nat.le_refl _) _).trans (b1.mono (by simp))
  clear b1
  go_wp2_with (go_at_call 17; refine (k17 _).mono ?_)
  rintro e w2 ⟨rfl, b2⟩
  have B2 : Hid (Below w.heap.size w w2) := B1.out.trans (b2.mono B1.out.size)
  clear b2
  go_wp2
  go_ret
  exact ⟨rfl, B2.out⟩
set_option maxHeartbeats 1000000 in
theorem form_any (s : ByteArray) (w : World) (hs : s.size ≤ 46912496100000) : Calls Tryd.prog 6 #[.string s] w fun e w' => e = .returned (.string (sw 32 43 (encB fS s))) ∧ Below w.heap.size w w' := by
  have k14 := fun w => formSet_any w
  have k13 := fun w => formBy_any s w hs
  obtain ⟨D, hD⟩ : ∃ D, sw 32 43 (encB fS s) = D := ⟨_, rfl⟩
  rw [hD] at k13 ⊢
  obtain ⟨A, hA⟩ : ∃ A, aggW fS = A := ⟨_, rfl⟩
  rw [hA] at k13
  have k14' : ∀ w, Calls Tryd.prog 14 #[] w fun e w' => e = .returned (.agg A) ∧ Below w.heap.size w w' := fun w => by rw [← hA]; exact k14 w
  clear hD hA k14
  go_enter Tryd.func6, Tryd.ntmps6
  go_wp2_with (go_at_call 14; refine (k14' _).mono ?_)
  rintro e w1 ⟨rfl, b1⟩
  have B1 : Hid (Below w.heap.size w w1) := b1
  clear b1
  go_wp2_with (go_at_call 13; refine (k13 _).mono ?_)
  rintro e w2 ⟨rfl, b2⟩
  have B2 : Hid (Below w.heap.size w w2) := B1.out.trans (b2.mono B1.out.size)
  clear b2
  go_wp2
  go_ret
  exact ⟨rfl, B2.out⟩
set_option maxHeartbeats 1000000 in
theorem formDecode_any (s : ByteArray) (w : World) (hs : s.size ≤ 140737488351232) : Calls Tryd.prog 8 #[.string s] w fun e w' => e = .returned (.string (decB (sw 43 32 s))) ∧ Below w.heap.size w w' := by
  have k17 := fun w => replaceAll_one s 43 32 w (by decide) (by omega)
  have k11 := fun w => decode_any (sw 43 32 s) w (by rw [sw_size]; omega)
  obtain ⟨E, hE⟩ : ∃ E, sw 43 32 s = E := ⟨_, rfl⟩
  rw [hE] at k11 k17 ⊢
  obtain ⟨D, hD⟩ : ∃ D, decB E = D := ⟨_, rfl⟩
  rw [hD] at k11 ⊢
  clear hE hD
  go_enter Tryd.func8, Tryd.ntmps8
  go_wp2_with (go_at_call 17; refine (k17 _).mono ?_)
  rintro e w1 ⟨rfl, b1⟩
  have B1 : Hid (Below w.heap.size w w1) := b1
  clear b1
  go_wp2_with (go_at_call 11; refine (k11 _).mono ?_)
  rintro e w2 ⟨rfl, b2⟩
  have B2 : Hid (Below w.heap.size w w2) := B1.out.trans (b2.mono B1.out.size)
  clear b2
  go_wp2
  go_ret
  exact ⟨rfl, B2.out⟩
theorem fS_sign : fS 37 = true := by decide +kernel
theorem fS_plus : fS 43 = true := by decide +kernel
/-- What a form codes comes back. -/
theorem form_back (s : ByteArray) : decB (sw 43 32 (sw 32 43 (encB fS s))) = s := by
  rw [sw_back 32 43 (encB fS s) (fun j hj => enc_no fS fS_plus s s.size j hj)]
  exact dec_enc fS fS_sign s
end Go.Proofs.YtoliiccmfmgmlaaDoor
