/-
  The contract of the document's Escape. Conditions: the text takes no more bytes than there are.
-/
import Derived.Test.YtabofadjnbpjkacDoorVd
import Derived.Test.YtabofadjnbpjkacDoorUx
import Derived.Maps.AppendAt
namespace Go.Proofs.YtabofadjnbpjkacDoor
open Go.RowKit Go.Lib
/-- What is written for a text. -/
def escL (zs : List Int) : List Int := zs.flatMap esc1
theorem run_app {l : List (Nat × Value)} {w w' : World} {o : Oper} (s x : Operand) (t : TypeId) (ho : o.op = .call { callee := .builtin .append, args := #[s, x], argTypes := #[t, t] }) (v u r : Value) (hs : rho l s = v) (hx : rho l x = u) (hr : (Builtin.append_ #[t, t] o.type #[v, u]).run Tryd.prog w = .ok r w') : (execOp (rho l) o).run Tryd.prog w = .ok (.value r) w' := by
  unfold execOp
  simp only [ho, resolve, invoke, builtin, Sem.run_bind, Sem.run_pure, Result.andThen_ok, List.map_toArray, List.map_cons, List.map_nil, hs, hx, hr]
theorem info5 : (Tryd.prog.info? 5).map (fun i => (i.zero, i.size, i.bytes)) = some (some (.int .u8 0), 1, 1) := by kernel_rfl
theorem hx4_len (u : Int) : (hx4 u).length = 6 := rfl
theorem un1_range (r : Int) (h : Lib.validRune r = true) : ∀ u ∈ un1 r, 0 ≤ u ∧ u < 65536 := by
  have hr : (0 ≤ r ∧ r < 55296) ∨ (57343 < r ∧ r ≤ 1114111) := by simpa [Lib.validRune] using h
  unfold un1
  intro u hu
  split at hu
  · simp at hu; omega
  · simp at hu; omega
/-- What is said of the slots of the region that writes a unit. -/
def lR (u : Int) (xo : Value) (b3 base : Nat) (pre : List Int) : List (Value → World → Prop) :=
  [isV xo, isV (.int .u16 u), isV (.int .u16 (u / 4096)), isV (.int .u8 (dg (u / 4096))), isV (.int .u16 u), isV (.int .u16 (u / 256)), isV (.int .u16 (u / 256 % 16)), isV (.int .u8 (dg (u / 256 % 16))), isV (.int .u16 u), isV (.int .u16 (u / 16)), isV (.int .u16 (u / 16 % 16)), isV (.int .u8 (dg (u / 16 % 16))), isV (.int .u16 u), isV (.int .u16 (u % 16)), isV (.int .u8 (dg (u % 16))), fun v w => w.ownsRow b3 5 1 v 6 ((hx4 u).map fun z => Value.int .u8 z), fun v w => w.ownsRow base 5 1 v (pre.length + 6) ((pre.map fun z => Value.int .u8 z) ++ (hx4 u).map fun z => Value.int .u8 z), fun v w => w.ownsRow base 5 1 v (pre.length + 6) ((pre.map fun z => Value.int .u8 z) ++ (hx4 u).map fun z => Value.int .u8 z)]
theorem lR_stays {u : Int} {xo : Value} {b3 base : Nat} {pre : List Int} : AllP Stays (lR u xo b3 base pre) := by
  refine ⟨Stays.isV, Stays.isV, Stays.isV, Stays.isV, Stays.isV, Stays.isV, Stays.isV, Stays.isV, Stays.isV, Stays.isV, Stays.isV, Stays.isV, Stays.isV, Stays.isV, Stays.isV, ?_, ?_, ?_, trivial⟩
  · exact fun _ _ _ h hb => owns_below h hb
  · exact fun _ _ _ h hb => owns_below h hb
  · exact fun _ _ _ h hb => owns_below h hb
/-- What is said of memory: what was written so far, ahead of the append; the code points and the units; what was there. -/
def gR (xo : Value) (base b1 b2 : Nat) (pre zs us : List Int) (vz vu : Value) (w0 W0 : World) : (Nat → Bool) → World → Prop :=
  fun s w => (s 16 = true ∨ w.ownsRow base 5 1 xo pre.length (pre.map fun z => Value.int .u8 z)) ∧ w.ownsRow b1 21 1 vz zs.length (zs.map fun z => Value.int .i32 z) ∧ w.ownsRow b2 30 1 vu us.length (us.map fun z => Value.int .u16 z) ∧ Below w0.heap.size w0 w ∧ W0.heap.size ≤ w.heap.size
theorem gR_calm {xo : Value} {base b1 b2 : Nat} {pre zs us : List Int} {vz vu : Value} {w0 W0 : World} {l : List (Value → World → Prop)} (hl : AllP Stays l) (i : Nat) (hi : i ≠ 16) : Calm (gR xo base b1 b2 pre zs us vz vu w0 W0) (fun _ => nthP l) i := by
  refine ⟨fun s w w' _ hq hb => ?_, fun s j u w w' _ _ hu hb => nthP_stays hl j u w w' hu hb⟩
  obtain ⟨h1, h2, h3, h4, h5⟩ := hq
  have e : mark s i 16 = s 16 := if_neg (Ne.symm hi)
  refine ⟨?_, owns_below h2 hb, owns_below h3 hb, h4.trans (hb.mono h4.size), Nat.le_trans h5 hb.size⟩
  rw [e]
  rcases h1 with h1 | h1
  · exact .inl h1
  · exact .inr (owns_below h1 hb)
theorem lR_turn {u : Int} {xo : Value} {b3 base : Nat} {pre : List Int} {j : Nat} {v : Value} {w w' : World} (hj : j ≠ 16) (hj2 : j ≠ 17) (hg : w.grownBy w' xo.ownBlock) (hx : ∀ k, xo.ownBlock = some k → k < b3) (h : nthP (lR u xo b3 base pre) j v w) : nthP (lR u xo b3 base pre) j v w' := by
  match j, hj, hj2, h with
  | 0, _, _, h => exact h
  | 1, _, _, h => exact h
  | 2, _, _, h => exact h
  | 3, _, _, h => exact h
  | 4, _, _, h => exact h
  | 5, _, _, h => exact h
  | 6, _, _, h => exact h
  | 7, _, _, h => exact h
  | 8, _, _, h => exact h
  | 9, _, _, h => exact h
  | 10, _, _, h => exact h
  | 11, _, _, h => exact h
  | 12, _, _, h => exact h
  | 13, _, _, h => exact h
  | 14, _, _, h => exact h
  | 15, _, _, h =>
    have h' : w.ownsRow b3 5 1 v 6 ((hx4 u).map fun z => Value.int .u8 z) := h
    exact h'.kept hg (.inr (fun e => by
      cases hv : v.ownBlock with
      | none =>
        obtain ⟨_, ⟨_, h0⟩ | ⟨g, c, cur, rfl, _⟩⟩ := h'
        · cases h0
        · cases hv
      | some k =>
        have h1 := (h'.lt k hv).1
        rw [hv] at e
        have h2 := hx k e.symm
        omega))
  | 16, hj, _, _ => exact absurd rfl hj
  | 17, _, hj, _ => exact absurd rfl hj
  | m + 18, _, _, _ => exact trivial
theorem own_none5 (w : World) (e : TypeId) : (w.alloc (.cells #[] e)).ownsRow w.heap.size e 1 (.slice (some ⟨w.heap.size, 0, none⟩) 0 0) 0 [] := ⟨rfl, .inr ⟨_, _, _, rfl, Nat.le_refl _, World.alloc_heap_new _ _, by simp, by decide, rfl, rfl⟩⟩
theorem esc_step (zs : List Int) (k : Nat) (h : k < zs.length) : escL (zs.take (k + 1)) = escL (zs.take k) ++ esc1 (zs.getD k 0) := by
  have e : zs.take (k + 1) = zs.take k ++ [zs.getD k 0] := by
    rw [List.take_add_one, List.getElem?_eq_getElem h]
    simp [List.getD, List.getElem?_eq_getElem h]
  rw [e]
  unfold escL
  rw [List.flatMap_append]
  simp
theorem hx_step (us : List Int) (k : Nat) (h : k < us.length) : (us.take (k + 1)).flatMap hx4 = (us.take k).flatMap hx4 ++ hx4 (us.getD k 0) := by
  have e : us.take (k + 1) = us.take k ++ [us.getD k 0] := by
    rw [List.take_add_one, List.getElem?_eq_getElem h]
    simp [List.getD, List.getElem?_eq_getElem h]
  rw [e, List.flatMap_append]
  simp
theorem hx_len : ∀ us : List Int, (us.flatMap hx4).length = 6 * us.length
  | [] => rfl
  | u :: l => by rw [List.flatMap_cons, List.length_append, hx_len l, hx4_len, List.length_cons]; omega
theorem esc1_len (r : Int) : (esc1 r).length ≤ 12 := by
  unfold esc1
  split
  · simp
  · rw [hx_len]; have := un1_len r; omega
theorem esc_len : ∀ zs : List Int, (escL zs).length ≤ 12 * zs.length
  | [] => by simp [escL]
  | r :: l => by
    have := esc_len l
    have := esc1_len r
    unfold escL at *
    rw [List.flatMap_cons, List.length_append, List.length_cons]; omega
theorem esc_range (zs : List Int) (hv : ∀ r ∈ zs, Lib.validRune r = true) : ∀ z ∈ escL zs, 0 ≤ z ∧ z < 256 := by
  intro z hz
  unfold escL at hz
  rw [List.mem_flatMap] at hz
  obtain ⟨r, hr, hz⟩ := hz
  unfold esc1 at hz
  split at hz
  · simp at hz; omega
  · rw [List.mem_flatMap] at hz
    obtain ⟨u, hu, hz⟩ := hz
    have := un1_range r (hv r hr) u hu
    exact hx4_range u this.1 this.2 z hz
theorem wpList_str {w : World} {ops : Array Oper} {rest : List Oper} {o : Oper} {a : Act} {Q : Exit → Act → World → Prop} (hgd : o.guard = none) (x : Operand) (ho : o.op = .convert 45 9 x) (v : Value) (S : ByteArray) (hx : a.eval x = v) (hr : (convert 45 9 v).run Tryd.prog w = .ok (.string S) w) (K : wpList Tryd.prog ops Q rest (a.put o.dst (.string S)) w) : wpList Tryd.prog ops Q (o :: rest) a w :=
  wpList_plain hgd fun K' hK => by
    unfold Oper.wp execOp
    simp only [ho, hx, Sem.run_bind, Sem.run_pure, Result.andThen_ok, hr]
    exact hK _ _ K
set_option maxRecDepth 100000 in
set_option maxHeartbeats 8000000 in
theorem resc_any (s : ByteArray) (w : World) (hs : s.size ≤ 1048576) :
    Calls Tryd.prog 7 #[.string s] w fun e w' => e = .returned (.string (strOfNums (escL (nums s)))) ∧ Below w.heap.size w w' := by
  obtain ⟨i0, hi, hz0, hz1, hz2⟩ := info_parts info5
  have n1 := nums_len s
  have B0 : Below w.heap.size w (w.alloc (.cells #[] 5)) := (Below.refl _ _).alloc (Nat.le_refl _) _
  have K1 := rdecode_any s (w.alloc (.cells #[] 5)) (by omega)
  rw [runes_nums] at K1
  have e1 : (poss s).length = (nums s).length := by unfold nums; rw [List.length_map]
  rw [e1] at K1
  have HV : Hid (∀ r ∈ nums s, Lib.validRune r = true) := nums_valid s
  obtain ⟨zs, hzs⟩ : ∃ zs, nums s = zs := ⟨_, rfl⟩
  rw [hzs] at K1 HV n1
  have HZ : Hid (nums s = zs) := hzs
  clear e1 hzs
  have BB : Hid (Below w.heap.size w (w.alloc (.cells #[] 5))) := B0
  clear B0
  go_enter Tryd.func7, Tryd.ntmps7
  go_wp2_with (go_at_call 25; refine K1.mono ?_)
  first | rintro e w1 vz rfl o1 b1 | rintro e w1 ⟨vz, rfl, o1, b1⟩
  obtain ⟨b1', hb1'⟩ : ∃ b, (w.alloc (.cells #[] 5)).heap.size = b := ⟨_, rfl⟩
  have hb1w : w.heap.size ≤ b1' := by rw [← hb1']; simp
  rw [hb1'] at o1
  have H0 : Hid (w1.ownsRow w.heap.size 5 1 (.slice (some ⟨w.heap.size, 0, none⟩) 0 0) (escL (zs.take 0)).length ((escL (zs.take 0)).map fun z => Value.int .u8 z) ∧ w1.ownsRow b1' 21 1 vz zs.length (zs.map fun z => Value.int .i32 z) ∧ Below w.heap.size w w1) := ⟨owns_below (own_none5 w 5) b1, o1, BB.out.trans (b1.mono (by simp))⟩
  obtain ⟨az, cz, rfl, _⟩ := owns_slice o1
  clear o1 b1 K1 BB hb1'
  go_wp2
  go_loopw [3, 15] (fun x i wr => ∃ k : Nat, i = .int .i64 k ∧ k ≤ zs.length ∧ Hid (wr.ownsRow w.heap.size 5 1 x (escL (zs.take k)).length ((escL (zs.take k)).map fun z => Value.int .u8 z) ∧ wr.ownsRow b1' 21 1 (.slice az zs.length cz) zs.length (zs.map fun z => Value.int .i32 z) ∧ Below w.heap.size w wr)) (fun _ i _ => zs.length - (RowKit.intOf i).toNat)
  case atStart => exact ⟨0, rfl, Nat.zero_le _, H0⟩
  case round =>
    clear H0
    obtain ⟨k, rfl, hk, HI⟩ := hrel
    by_cases l1 : k < zs.length
    · have l1i : (k : Int) < (zs.length : Int) := by omega
      obtain ⟨o1, o2, bl⟩ := HI.out
      have hwz := bl.size
      obtain ⟨a2, c2, e2, h2⟩ := owns_slice o2
      cases e2
      obtain ⟨g, rfl⟩ := h2 (by omega)
      have hr0 : zs[k]? = some (zs.getD k 0) := by simp [List.getD, List.getElem?_eq_getElem l1]
      have hc := owns_cell o2 rfl k (.int .i32 (zs.getD k 0)) (by rw [List.getElem?_map, hr0]; rfl)
      have hv : Lib.validRune (zs.getD k 0) = true := HV.out _ (by have := List.mem_of_getElem? hr0; exact this)
      have hst := esc_step zs k l1
      have hel := esc_len (zs.take k)
      rw [List.length_take] at hel
      obtain ⟨r, hr⟩ : ∃ r, zs.getD k 0 = r := ⟨_, rfl⟩
      rw [hr] at hc hv hst
      obtain ⟨P0, hP⟩ : ∃ P0, escL (zs.take k) = P0 := ⟨_, rfl⟩
      rw [hP] at o1 hst hel
      have hv2 : (0 ≤ r ∧ r < 55296) ∨ (57343 < r ∧ r ≤ 1114111) := by simpa [Lib.validRune] using hv
      have HV2 : Hid (Lib.validRune r = true) := hv
      have O1 : Hid (wr.ownsRow w.heap.size 5 1 u3 P0.length (P0.map fun z => Value.int .u8 z)) := o1
      have O2 : Hid (wr.ownsRow b1' 21 1 (.slice (some ⟨g, 0, none⟩) zs.length cz) zs.length (zs.map fun z => Value.int .i32 z)) := o2
      have BL : Hid (Below w.heap.size w wr) := bl
      clear HI o1 o2 bl hr hP h2 hr0 hv
      by_cases hp : 32 ≤ r ∧ r ≤ 126 ∧ r ≠ 92
      · have HST : Hid (escL (zs.take (k + 1)) = P0 ++ [r]) := by
          unfold Hid; rw [hst]; unfold esc1; rw [if_pos hp]
        have p1 := hp.1
        have p2 := hp.2.1
        have p3 : (r == 92) = false := beq_false_of_ne hp.2.2
        have hcn := cell_one_new wr (.int .u8 r) 5
        clear hst hv2 hp
        go_wp2_with (at_builtin; refine wpList_append_own _ rfl _ _ 45 rfl w.heap.size 5 i0 (.int .u8 0) 1 1 Tryd.underlying45 hi hz0 hz1 hz2 rfl (by decide) _ _ _ rfl (O1.out.alloc _) ⟨_, 0, none⟩ 1 1 [.int .u8 r] rfl rfl hcn (by simp [Value.oneCell']) (by unfold maxLen; omega) (by omega) (by simp; omega) ?_)
        intro v' w2 hown' hgrow _
        have HF : Hid (w2.ownsRow w.heap.size 5 1 v' (escL (zs.take (k + 1))).length ((escL (zs.take (k + 1))).map fun z => Value.int .u8 z) ∧ w2.ownsRow b1' 21 1 (.slice (some ⟨g, 0, none⟩) zs.length cz) zs.length (zs.map fun z => Value.int .i32 z) ∧ Below w.heap.size w w2) := by
          refine ⟨by rw [HST.out, List.length_append, List.map_append]; exact hown', (O2.out.alloc _).kept hgrow (owns_apart O2.out O1.out (by decide)), (BL.out.alloc hwz _).grown hgrow (by simp; omega) (fun j hj => (O1.out.lt j hj).1)⟩
        clear hown' hgrow hcn
        go_wp2
        exact ⟨⟨k + 1, by go_num, by omega, HF⟩, by simp [RowKit.intOf]; omega⟩
      · have HST : Hid (escL (zs.take (k + 1)) = P0 ++ (un1 r).flatMap hx4) := by
          unfold Hid; rw [hst]; unfold esc1; rw [if_neg hp]
        have hun := un1_len r
        have KU := runits_own [r] (.slice (some ⟨wr.heap.size, 0, none⟩) 1 1) (wr.alloc (.cells #[.int .i32 r] 21)) (by simp) ⟨_, _, rfl, fun _ => ⟨_, 0, rfl, fun j hj => by
          have := World.alloc_heap_new wr (.cells #[.int .i32 r] 21)
          simp only [List.length_cons, List.length_nil] at hj
          obtain rfl : j = 0 := by omega
          simp only [World.cell?, this]; rfl⟩⟩
        have hue : uns [r] = un1 r := by simp [uns]
        have hub : badFrom [r] 0 = -1 := (all_valid _ 0).2 (fun z hz => by simp at hz; rw [hz]; exact HV2.out)
        rw [hue] at KU
        have hR := un1_range r HV2.out
        obtain ⟨us, hus⟩ : ∃ us, un1 r = us := ⟨_, rfl⟩
        rw [hus] at KU hun hR HST
        have HUR : Hid (∀ u ∈ us, 0 ≤ u ∧ u < 65536) := hR
        have KU2 : Hid (Calls Tryd.prog 26 #[.slice (some ⟨wr.heap.size, 0, none⟩) 1 1] (wr.alloc (.cells #[.int .i32 r] 21)) fun e w' => ∃ u, e = .returned (.tuple #[u, .int .i64 (unP [r]), .int .i64 (unE [r])]) ∧ w'.ownsRow (wr.alloc (.cells #[.int .i32 r] 21)).heap.size 30 1 u us.length (us.map fun z => Value.int .u16 z) ∧ Below (wr.alloc (.cells #[.int .i32 r] 21)).heap.size (wr.alloc (.cells #[.int .i32 r] 21)) w') :=
          KU.mono fun e w' ⟨u, h1, h2, h3⟩ => ⟨u, h1, h2 hub, h3⟩
        clear KU hst hue hub hR hus
        have WAY : (32 ≤ r → ¬ r ≤ 126 ∨ r = 92) := fun h => by omega
        by_cases q1 : 32 ≤ r
        · by_cases q2 : r ≤ 126
          · have q3 : r = 92 := by omega
            subst q3
            clear hv2 hp
            go_wp2_with (go_at_call 26; refine KU2.out.mono ?_)
            first | rintro e w2 vu rfl o3 b3 | rintro e w2 ⟨vu, rfl, o3, b3⟩
            obtain ⟨b2, hb2⟩ : ∃ b, (wr.alloc (.cells #[.int .i32 92] 21)).heap.size = b := ⟨_, rfl⟩
            have hb2' : wr.heap.size + 1 = b2 := by rw [← hb2]; simp
            have hb2w : w.heap.size ≤ b2 := by omega
            rw [hb2'] at o3 b3
            rw [← hb2] at b3
            obtain ⟨au, cu, rfl, hau⟩ := owns_slice o3
            have H3 : Hid (w2.ownsRow w.heap.size 5 1 u3 (P0 ++ (us.take 0).flatMap hx4).length ((P0 ++ (us.take 0).flatMap hx4).map fun z => Value.int .u8 z) ∧ w2.ownsRow b1' 21 1 (.slice (some ⟨g, 0, none⟩) zs.length cz) zs.length (zs.map fun z => Value.int .i32 z) ∧ w2.ownsRow b2 30 1 (.slice au us.length cu) us.length (us.map fun z => Value.int .u16 z) ∧ Below w.heap.size w w2) := by
              rw [List.take_zero, List.flatMap_nil, List.append_nil]
              exact ⟨owns_below (O1.out.alloc _) b3, owns_below (O2.out.alloc _) b3, o3, (BL.out.alloc hwz _).trans (b3.mono (by simp; omega))⟩
            clear o3 b3 hb2 hb2'
            go_wp2
            go_loopw [3, 43] (fun x i wr => ∃ j : Nat, i = .int .i64 j ∧ j ≤ us.length ∧ Hid (wr.ownsRow w.heap.size 5 1 x (P0 ++ (us.take j).flatMap hx4).length ((P0 ++ (us.take j).flatMap hx4).map fun z => Value.int .u8 z) ∧ wr.ownsRow b1' 21 1 (.slice (some ⟨g, 0, none⟩) zs.length cz) zs.length (zs.map fun z => Value.int .i32 z) ∧ wr.ownsRow b2 30 1 (.slice au us.length cu) us.length (us.map fun z => Value.int .u16 z) ∧ Below w.heap.size w wr)) (fun _ i _ => us.length - (RowKit.intOf i).toNat)
            case atStart => exact ⟨0, rfl, Nat.zero_le _, H3⟩
            case round =>
              clear H3 O1 O2 BL KU2
              obtain ⟨j, rfl, hj, HJ⟩ := hrel
              by_cases l2 : j < us.length
              · have l2i : (j : Int) < (us.length : Int) := by omega
                obtain ⟨gu, rfl⟩ := hau (by omega)
                obtain ⟨y1, y2, y3, y4⟩ := HJ.out
                have hu0 : us[j]? = some (us.getD j 0) := by simp [List.getD, List.getElem?_eq_getElem l2]
                have hcu := owns_cell y3 rfl j (.int .u16 (us.getD j 0)) (by rw [List.getElem?_map, hu0]; rfl)
                have hur := HUR.out _ (List.mem_of_getElem? hu0)
                have hs2 := hx_step us j l2
                have hl6 := hx_len (us.take j)
                rw [List.length_take] at hl6
                obtain ⟨u, hu⟩ : ∃ u, us.getD j 0 = u := ⟨_, rfl⟩
                rw [hu] at hcu hur hs2
                obtain ⟨pre, hpre⟩ : ∃ pre, P0 ++ (us.take j).flatMap hx4 = pre := ⟨_, rfl⟩
                have hpl : pre.length ≤ 20000000 := by rw [← hpre, List.length_append, hl6]; omega
                have HPS : Hid (P0 ++ (us.take (j + 1)).flatMap hx4 = pre ++ hx4 u) := by unfold Hid; rw [hs2, ← List.append_assoc, hpre]
                rw [hpre] at y1
                obtain ⟨xo, hxo⟩ : ∃ xo, xo = u3 := ⟨_, rfl⟩
                rw [← hxo] at y1 ⊢
                obtain ⟨wq, hwq⟩ : ∃ wq, wq = wr := ⟨_, rfl⟩
                rw [← hwq] at y1 y2 y3 y4 hcu ⊢
                have HG : Hid (wq.ownsRow w.heap.size 5 1 xo pre.length (pre.map fun z => Value.int .u8 z) ∧ wq.ownsRow b1' 21 1 (.slice (some ⟨g, 0, none⟩) zs.length cz) zs.length (zs.map fun z => Value.int .i32 z) ∧ wq.ownsRow b2 30 1 (.slice (some ⟨gu, 0, none⟩) us.length cu) us.length (us.map fun z => Value.int .u16 z) ∧ Below w.heap.size w wq) := ⟨y1, y2, y3, y4⟩
                have HXO : Hid (∀ k, xo.ownBlock = some k → k < wq.heap.size) := fun k hk => (y1.lt k hk).2
                have hwq2 := y4.size
                clear y1 y2 y3 y4 HJ hu hs2 hpre hxo hwq hu0 hl6
                go_wp2
                refine wp_keep fun a0 ha0 => ?_
                have hz : a0.tmps.size = 68 := by rw [ha0]; rfl
                have s3 : a0.tmps[3]? = some xo := by rw [ha0]; rfl
                have s10 : a0.tmps[10]? = some (.int .u16 u) := by rw [ha0]; rfl
                have hcalm := fun i hi => gR_calm (xo := xo) (base := w.heap.size) (b1 := b1') (b2 := b2) (pre := pre) (zs := zs) (us := us) (vz := .slice (some ⟨g, 0, none⟩) zs.length cz) (vu := .slice (some ⟨gu, 0, none⟩) us.length cu) (w0 := w) (W0 := wq) (lR_stays (u := u) (xo := xo) (b3 := wq.heap.size) (base := w.heap.size) (pre := pre)) i hi
                have HA : Hid (a0 = _) := ha0
                clear ha0
                refine wp_region_turn (gR xo w.heap.size b1' b2 pre zs us (.slice (some ⟨g, 0, none⟩) zs.length cz) (.slice (some ⟨gu, 0, none⟩) us.length cu) w wq) (fun _ => nthP (lR u xo wq.heap.size w.heap.size pre)) 68 hz (by kernel_rfl) (by kernel_rfl) ?start ⟨?o0, ?o1, ?o2, ?o3, ?o4, ?o5, ?o6, ?o7, ?o8, ?o9, ?o10, ?o11, ?o12, ?o13, ?o14, ?o15, ?o16, ?o17, trivial⟩ ?done
                case start =>
                  intro w4 hb4 hs4 s hs
                  have G := HG.out
                  exact ⟨.inr (owns_below G.1 hb4), owns_below G.2.1 hb4, owns_below G.2.2.1 hb4, G.2.2.2.trans (hb4.mono G.2.2.2.size), hb4.size⟩
                case o0 =>
                  refine FlowOp4.plain (hcalm 0 (by decide)) fun a1 w4 s cx => ?_
                  have s3 := cx.keep 3 _ (by kernel_rfl) s3
                  refine ⟨wanted_none rfl, fun K hK => ?_⟩
                  exact wp_moved _ rfl _ (ev_tmp s3) (hK.out _ _ rfl (Below.refl _ _))
                case o1 =>
                  refine FlowOp4.plain (hcalm 1 (by decide)) fun a1 w4 s cx => ?_
                  have s10 := cx.keep 10 _ (by kernel_rfl) s10
                  refine ⟨wanted_none rfl, fun K hK => ?_⟩
                  exact wp_moved _ rfl _ (ev_tmp s10) (hK.out _ _ rfl (Below.refl _ _))
                case o2 =>
                  refine FlowOp4.plain (hcalm 2 (by decide)) fun a1 w4 s cx => ?_
                  obtain ⟨v48, s48, p48⟩ := cx.slot 1 48 (by kernel_rfl)
                  replace p48 : v48 = .int .u16 u := p48
                  subst p48
                  refine ⟨wanted_none rfl, fun K hK => ?_⟩
                  exact wp_gen [(48, .int .u16 u)] ⟨s48, trivial⟩ (by kernel_rfl) (run_quo w4 48 (u) 4096 (by omega) (by omega) (by decide) _ rfl) (hK.out _ _ rfl (Below.refl _ _))
                case o3 =>
                  refine FlowOp4.plain (hcalm 3 (by decide)) fun a1 w4 s cx => ?_
                  obtain ⟨v49, s49, p49⟩ := cx.slot 2 49 (by kernel_rfl)
                  replace p49 : v49 = .int .u16 (u / 4096) := p49
                  subst p49
                  refine ⟨wanted_none rfl, fun K hK => ?_⟩
                  exact wp_gen [(49, .int .u16 (u / 4096))] ⟨s49, trivial⟩ (by kernel_rfl) (run_dig w4 49 (u / 4096) (by omega) (by omega) _ rfl) (hK.out _ _ rfl (Below.refl _ _))
                case o4 =>
                  refine FlowOp4.plain (hcalm 4 (by decide)) fun a1 w4 s cx => ?_
                  have s10 := cx.keep 10 _ (by kernel_rfl) s10
                  refine ⟨wanted_none rfl, fun K hK => ?_⟩
                  exact wp_moved _ rfl _ (ev_tmp s10) (hK.out _ _ rfl (Below.refl _ _))
                case o5 =>
                  refine FlowOp4.plain (hcalm 5 (by decide)) fun a1 w4 s cx => ?_
                  obtain ⟨v51, s51, p51⟩ := cx.slot 4 51 (by kernel_rfl)
                  replace p51 : v51 = .int .u16 u := p51
                  subst p51
                  refine ⟨wanted_none rfl, fun K hK => ?_⟩
                  exact wp_gen [(51, .int .u16 u)] ⟨s51, trivial⟩ (by kernel_rfl) (run_quo w4 51 (u) 256 (by omega) (by omega) (by decide) _ rfl) (hK.out _ _ rfl (Below.refl _ _))
                case o6 =>
                  refine FlowOp4.plain (hcalm 6 (by decide)) fun a1 w4 s cx => ?_
                  obtain ⟨v52, s52, p52⟩ := cx.slot 5 52 (by kernel_rfl)
                  replace p52 : v52 = .int .u16 (u / 256) := p52
                  subst p52
                  refine ⟨wanted_none rfl, fun K hK => ?_⟩
                  exact wp_gen [(52, .int .u16 (u / 256))] ⟨s52, trivial⟩ (by kernel_rfl) (run_rem w4 52 (u / 256) (by omega) (by omega) _ rfl) (hK.out _ _ rfl (Below.refl _ _))
                case o7 =>
                  refine FlowOp4.plain (hcalm 7 (by decide)) fun a1 w4 s cx => ?_
                  obtain ⟨v53, s53, p53⟩ := cx.slot 6 53 (by kernel_rfl)
                  replace p53 : v53 = .int .u16 (u / 256 % 16) := p53
                  subst p53
                  refine ⟨wanted_none rfl, fun K hK => ?_⟩
                  exact wp_gen [(53, .int .u16 (u / 256 % 16))] ⟨s53, trivial⟩ (by kernel_rfl) (run_dig w4 53 (u / 256 % 16) (by omega) (by omega) _ rfl) (hK.out _ _ rfl (Below.refl _ _))
                case o8 =>
                  refine FlowOp4.plain (hcalm 8 (by decide)) fun a1 w4 s cx => ?_
                  have s10 := cx.keep 10 _ (by kernel_rfl) s10
                  refine ⟨wanted_none rfl, fun K hK => ?_⟩
                  exact wp_moved _ rfl _ (ev_tmp s10) (hK.out _ _ rfl (Below.refl _ _))
                case o9 =>
                  refine FlowOp4.plain (hcalm 9 (by decide)) fun a1 w4 s cx => ?_
                  obtain ⟨v55, s55, p55⟩ := cx.slot 8 55 (by kernel_rfl)
                  replace p55 : v55 = .int .u16 u := p55
                  subst p55
                  refine ⟨wanted_none rfl, fun K hK => ?_⟩
                  exact wp_gen [(55, .int .u16 u)] ⟨s55, trivial⟩ (by kernel_rfl) (run_quo w4 55 (u) 16 (by omega) (by omega) (by decide) _ rfl) (hK.out _ _ rfl (Below.refl _ _))
                case o10 =>
                  refine FlowOp4.plain (hcalm 10 (by decide)) fun a1 w4 s cx => ?_
                  obtain ⟨v56, s56, p56⟩ := cx.slot 9 56 (by kernel_rfl)
                  replace p56 : v56 = .int .u16 (u / 16) := p56
                  subst p56
                  refine ⟨wanted_none rfl, fun K hK => ?_⟩
                  exact wp_gen [(56, .int .u16 (u / 16))] ⟨s56, trivial⟩ (by kernel_rfl) (run_rem w4 56 (u / 16) (by omega) (by omega) _ rfl) (hK.out _ _ rfl (Below.refl _ _))
                case o11 =>
                  refine FlowOp4.plain (hcalm 11 (by decide)) fun a1 w4 s cx => ?_
                  obtain ⟨v57, s57, p57⟩ := cx.slot 10 57 (by kernel_rfl)
                  replace p57 : v57 = .int .u16 (u / 16 % 16) := p57
                  subst p57
                  refine ⟨wanted_none rfl, fun K hK => ?_⟩
                  exact wp_gen [(57, .int .u16 (u / 16 % 16))] ⟨s57, trivial⟩ (by kernel_rfl) (run_dig w4 57 (u / 16 % 16) (by omega) (by omega) _ rfl) (hK.out _ _ rfl (Below.refl _ _))
                case o12 =>
                  refine FlowOp4.plain (hcalm 12 (by decide)) fun a1 w4 s cx => ?_
                  have s10 := cx.keep 10 _ (by kernel_rfl) s10
                  refine ⟨wanted_none rfl, fun K hK => ?_⟩
                  exact wp_moved _ rfl _ (ev_tmp s10) (hK.out _ _ rfl (Below.refl _ _))
                case o13 =>
                  refine FlowOp4.plain (hcalm 13 (by decide)) fun a1 w4 s cx => ?_
                  obtain ⟨v59, s59, p59⟩ := cx.slot 12 59 (by kernel_rfl)
                  replace p59 : v59 = .int .u16 u := p59
                  subst p59
                  refine ⟨wanted_none rfl, fun K hK => ?_⟩
                  exact wp_gen [(59, .int .u16 u)] ⟨s59, trivial⟩ (by kernel_rfl) (run_rem w4 59 (u) (by omega) (by omega) _ rfl) (hK.out _ _ rfl (Below.refl _ _))
                case o14 =>
                  refine FlowOp4.plain (hcalm 14 (by decide)) fun a1 w4 s cx => ?_
                  obtain ⟨v60, s60, p60⟩ := cx.slot 13 60 (by kernel_rfl)
                  replace p60 : v60 = .int .u16 (u % 16) := p60
                  subst p60
                  refine ⟨wanted_none rfl, fun K hK => ?_⟩
                  exact wp_gen [(60, .int .u16 (u % 16))] ⟨s60, trivial⟩ (by kernel_rfl) (run_dig w4 60 (u % 16) (by omega) (by omega) _ rfl) (hK.out _ _ rfl (Below.refl _ _))
                case o15 =>
                  refine FlowOp4.plain (hcalm 15 (by decide)) fun a1 w4 s cx => ?_
                  obtain ⟨v50, s50, p50⟩ := cx.slot 3 50 (by kernel_rfl)
                  replace p50 : v50 = .int .u8 (dg (u / 4096)) := p50
                  subst p50
                  obtain ⟨v54, s54, p54⟩ := cx.slot 7 54 (by kernel_rfl)
                  replace p54 : v54 = .int .u8 (dg (u / 256 % 16)) := p54
                  subst p54
                  obtain ⟨v58, s58, p58⟩ := cx.slot 11 58 (by kernel_rfl)
                  replace p58 : v58 = .int .u8 (dg (u / 16 % 16)) := p58
                  subst p58
                  obtain ⟨v61, s61, p61⟩ := cx.slot 14 61 (by kernel_rfl)
                  replace p61 : v61 = .int .u8 (dg (u % 16)) := p61
                  subst p61
                  refine ⟨wanted_none rfl, fun K hK => ?_⟩
                  exact wp_gen [(50, .int .u8 (dg (u / 4096))), (54, .int .u8 (dg (u / 256 % 16))), (58, .int .u8 (dg (u / 16 % 16))), (61, .int .u8 (dg (u % 16)))] ⟨s50, s54, s58, s61, trivial⟩ (by kernel_rfl) (v := .slice (some ⟨w4.heap.size, 0, none⟩) 6 6) (w' := w4.alloc (.cells #[.int .u8 92, .int .u8 117, .int .u8 (dg (u / 4096)), .int .u8 (dg (u / 256 % 16)), .int .u8 (dg (u / 16 % 16)), .int .u8 (dg (u % 16))] 5)) (by kernel_rfl) (hK.out _ _ (own_six w4 wq.heap.size cx.ground.2.2.2.2 _ _ _ _ _ _) ((Below.refl _ _).alloc (Nat.le_refl _) _))
                case o16 =>
                  refine FlowOp4.turn fun a2 w4 s cx => ?_
                  obtain ⟨v47, s47, p47⟩ := cx.slot 0 47 (by kernel_rfl)
                  replace p47 : v47 = xo := p47
                  rw [p47] at s47
                  obtain ⟨v62, s62, p62⟩ := cx.slot 15 62 (by kernel_rfl)
                  replace p62 : w4.ownsRow wq.heap.size 5 1 v62 6 ((hx4 u).map fun z => Value.int .u8 z) := p62
                  obtain ⟨g1, g2, g3, g4, g5⟩ := cx.ground
                  replace g1 := g1.resolve_left (by rw [cx.new]; simp)
                  obtain ⟨a6, c6, e6, h6⟩ := owns_slice p62
                  obtain ⟨q6, rfl⟩ := h6 (by decide)
                  obtain ⟨v', w', hrun, hown', hgrow, _, _⟩ := run_append_own_at (P := Tryd.prog) (w := w4) w.heap.size 45 45 5 i0 (.int .u8 0) 1 1 Tryd.underlying45 hi hz0 hz1 hz2 rfl (by decide) xo pre.length _ g1 ⟨q6, 0, none⟩ 6 c6 ((hx4 u).map fun z => Value.int .u8 z) rfl (fun j y hj => by
                      have e : (⟨q6, 0, none⟩ : Addr).add j = ⟨q6, j, none⟩ := by simp [Addr.add]; intro h; omega
                      rw [e]
                      exact owns_cell p62 e6 j y hj) (by simp [Value.oneCell']) (by unfold maxLen; omega) (by omega) (Nat.le_trans (by omega) g5)
                  refine ⟨wanted_none rfl, fun K hK => ?_⟩
                  refine wp_gen [(47, xo), (62, v62)] ⟨s47, s62, trivial⟩ (by kernel_rfl) (run_app (.tmp 47) (.tmp 62) 45 rfl xo v62 v' (by simp [rho]) (by simp [rho, List.lookup]) (by rw [e6]; exact hrun)) ?_
                  refine hK.out v' w' ⟨.inl (by simp [mark]), g2.kept hgrow (owns_apart g2 g1 (by decide)), g3.kept hgrow (owns_apart g3 g1 (by decide)), g4.grown hgrow g4.size (fun j hj => (g1.lt j hj).1), Nat.le_trans g5 hgrow.size⟩ (by exact hown') (fun j y hj hu => lR_turn (fun q => by rw [q, cx.new] at hj; cases hj) (fun q => by subst q; have c16 := cx.down 17 _ rfl hj 16 (by kernel_rfl); rw [cx.new] at c16; cases c16) hgrow HXO.out hu)
                case o17 =>
                  refine FlowOp4.plain (hcalm 17 (by decide)) fun a1 w4 s cx => ?_
                  obtain ⟨v63, s63, p63⟩ := cx.slot 16 63 (by kernel_rfl)
                  refine ⟨wanted_none rfl, fun K hK => ?_⟩
                  exact wp_assigned _ rfl _ (ev_tmp s63) (hK.out _ _ p63 (Below.refl _ _))
                case done =>
                  intro a w4 ss hall hgr hsz hdf hkp hgot
                  obtain ⟨v47, s47, p47⟩ := got_slot4 (s := ss) (V := fun _ => nthP (lR u xo wq.heap.size w.heap.size pre)) hgot 0 47 (by kernel_rfl)
                  replace p47 : v47 = xo := p47
                  rw [p47] at s47
                  obtain ⟨v48, s48, p48⟩ := got_slot4 (s := ss) (V := fun _ => nthP (lR u xo wq.heap.size w.heap.size pre)) hgot 1 48 (by kernel_rfl)
                  replace p48 : v48 = .int .u16 u := p48
                  subst p48
                  obtain ⟨v49, s49, p49⟩ := got_slot4 (s := ss) (V := fun _ => nthP (lR u xo wq.heap.size w.heap.size pre)) hgot 2 49 (by kernel_rfl)
                  replace p49 : v49 = .int .u16 (u / 4096) := p49
                  subst p49
                  obtain ⟨v50, s50, p50⟩ := got_slot4 (s := ss) (V := fun _ => nthP (lR u xo wq.heap.size w.heap.size pre)) hgot 3 50 (by kernel_rfl)
                  replace p50 : v50 = .int .u8 (dg (u / 4096)) := p50
                  subst p50
                  obtain ⟨v51, s51, p51⟩ := got_slot4 (s := ss) (V := fun _ => nthP (lR u xo wq.heap.size w.heap.size pre)) hgot 4 51 (by kernel_rfl)
                  replace p51 : v51 = .int .u16 u := p51
                  subst p51
                  obtain ⟨v52, s52, p52⟩ := got_slot4 (s := ss) (V := fun _ => nthP (lR u xo wq.heap.size w.heap.size pre)) hgot 5 52 (by kernel_rfl)
                  replace p52 : v52 = .int .u16 (u / 256) := p52
                  subst p52
                  obtain ⟨v53, s53, p53⟩ := got_slot4 (s := ss) (V := fun _ => nthP (lR u xo wq.heap.size w.heap.size pre)) hgot 6 53 (by kernel_rfl)
                  replace p53 : v53 = .int .u16 (u / 256 % 16) := p53
                  subst p53
                  obtain ⟨v54, s54, p54⟩ := got_slot4 (s := ss) (V := fun _ => nthP (lR u xo wq.heap.size w.heap.size pre)) hgot 7 54 (by kernel_rfl)
                  replace p54 : v54 = .int .u8 (dg (u / 256 % 16)) := p54
                  subst p54
                  obtain ⟨v55, s55, p55⟩ := got_slot4 (s := ss) (V := fun _ => nthP (lR u xo wq.heap.size w.heap.size pre)) hgot 8 55 (by kernel_rfl)
                  replace p55 : v55 = .int .u16 u := p55
                  subst p55
                  obtain ⟨v56, s56, p56⟩ := got_slot4 (s := ss) (V := fun _ => nthP (lR u xo wq.heap.size w.heap.size pre)) hgot 9 56 (by kernel_rfl)
                  replace p56 : v56 = .int .u16 (u / 16) := p56
                  subst p56
                  obtain ⟨v57, s57, p57⟩ := got_slot4 (s := ss) (V := fun _ => nthP (lR u xo wq.heap.size w.heap.size pre)) hgot 10 57 (by kernel_rfl)
                  replace p57 : v57 = .int .u16 (u / 16 % 16) := p57
                  subst p57
                  obtain ⟨v58, s58, p58⟩ := got_slot4 (s := ss) (V := fun _ => nthP (lR u xo wq.heap.size w.heap.size pre)) hgot 11 58 (by kernel_rfl)
                  replace p58 : v58 = .int .u8 (dg (u / 16 % 16)) := p58
                  subst p58
                  obtain ⟨v59, s59, p59⟩ := got_slot4 (s := ss) (V := fun _ => nthP (lR u xo wq.heap.size w.heap.size pre)) hgot 12 59 (by kernel_rfl)
                  replace p59 : v59 = .int .u16 u := p59
                  subst p59
                  obtain ⟨v60, s60, p60⟩ := got_slot4 (s := ss) (V := fun _ => nthP (lR u xo wq.heap.size w.heap.size pre)) hgot 13 60 (by kernel_rfl)
                  replace p60 : v60 = .int .u16 (u % 16) := p60
                  subst p60
                  obtain ⟨v61, s61, p61⟩ := got_slot4 (s := ss) (V := fun _ => nthP (lR u xo wq.heap.size w.heap.size pre)) hgot 14 61 (by kernel_rfl)
                  replace p61 : v61 = .int .u8 (dg (u % 16)) := p61
                  subst p61
                  obtain ⟨v62, s62, p62⟩ := got_slot4 (s := ss) (V := fun _ => nthP (lR u xo wq.heap.size w.heap.size pre)) hgot 15 62 (by kernel_rfl)
                  obtain ⟨v63, s63, p63⟩ := got_slot4 (s := ss) (V := fun _ => nthP (lR u xo wq.heap.size w.heap.size pre)) hgot 16 63 (by kernel_rfl)
                  obtain ⟨v3, s3, p3⟩ := got_slot4 (s := ss) (V := fun _ => nthP (lR u xo wq.heap.size w.heap.size pre)) hgot 17 3 (by kernel_rfl)
                  have ha := act_is a a0 [(47, xo), (48, .int .u16 u), (49, .int .u16 (u / 4096)), (50, .int .u8 (dg (u / 4096))), (51, .int .u16 u), (52, .int .u16 (u / 256)), (53, .int .u16 (u / 256 % 16)), (54, .int .u8 (dg (u / 256 % 16))), (55, .int .u16 u), (56, .int .u16 (u / 16)), (57, .int .u16 (u / 16 % 16)), (58, .int .u8 (dg (u / 16 % 16))), (59, .int .u16 u), (60, .int .u16 (u % 16)), (61, .int .u8 (dg (u % 16))), (62, v62), (63, v63), (3, v3)] (by rw [hsz, hz]) hdf (fun t ht => hkp t (keptAll_of (l := ([(47, xo), (48, .int .u16 u), (49, .int .u16 (u / 4096)), (50, .int .u8 (dg (u / 4096))), (51, .int .u16 u), (52, .int .u16 (u / 256)), (53, .int .u16 (u / 256 % 16)), (54, .int .u8 (dg (u / 256 % 16))), (55, .int .u16 u), (56, .int .u16 (u / 16)), (57, .int .u16 (u / 16 % 16)), (58, .int .u8 (dg (u / 16 % 16))), (59, .int .u16 u), (60, .int .u16 (u % 16)), (61, .int .u8 (dg (u % 16))), (62, v62), (63, v63), (3, v3)] : List (Nat × Value)).map (·.1)) (by kernel_rfl) t ht)) ⟨s47, s48, s49, s50, s51, s52, s53, s54, s55, s56, s57, s58, s59, s60, s61, s62, s63, s3, trivial⟩
                  rw [HA.out] at ha
                  obtain ⟨_, y2, y3, y4, y5⟩ := hgr
                  replace p3 : w4.ownsRow w.heap.size 5 1 v3 (pre.length + 6) ((pre.map fun z => Value.int .u8 z) ++ (hx4 u).map fun z => Value.int .u8 z) := p3
                  have HF : Hid (w4.ownsRow w.heap.size 5 1 v3 (pre ++ hx4 u).length ((pre ++ hx4 u).map fun z => Value.int .u8 z) ∧ w4.ownsRow b1' 21 1 (.slice (some ⟨g, 0, none⟩) zs.length cz) zs.length (zs.map fun z => Value.int .i32 z) ∧ w4.ownsRow b2 30 1 (.slice (some ⟨gu, 0, none⟩) us.length cu) us.length (us.map fun z => Value.int .u16 z) ∧ Below w.heap.size w w4) := ⟨by rw [List.length_append, hx4_len, List.map_append]; exact p3, y2, y3, y4⟩
                  rw [ha]
                  clear ha hkp hgot p62 p63 p3 HA hcalm y2 y3 y4 y5
                  simp only [List.foldl_cons, List.foldl_nil, List.setIfInBounds_toArray, List.set_cons_succ, List.set_cons_zero]
                  go_wp2
                  exact ⟨⟨j + 1, by go_num, by omega, by rw [HPS.out]; exact HF⟩, by simp [RowKit.intOf]; omega⟩
              · have l2i : ¬ (j : Int) < (us.length : Int) := by omega
                have ej : j = us.length := by omega
                have HF : Hid (wr.ownsRow w.heap.size 5 1 u3 (escL (zs.take (k + 1))).length ((escL (zs.take (k + 1))).map fun z => Value.int .u8 z) ∧ wr.ownsRow b1' 21 1 (.slice (some ⟨g, 0, none⟩) zs.length cz) zs.length (zs.map fun z => Value.int .i32 z) ∧ Below w.heap.size w wr) := by
                  obtain ⟨y1, y2, y3, y4⟩ := HJ.out
                  rw [ej, List.take_length] at y1
                  exact ⟨by rw [HST.out]; exact y1, y2, y4⟩
                clear HJ ej
                go_wp2
                exact ⟨⟨k + 1, by go_num, by omega, HF⟩, by simp [RowKit.intOf]; omega⟩
          · clear WAY
            clear hv2 hp
            go_wp2_with (go_at_call 26; refine KU2.out.mono ?_)
            first | rintro e w2 vu rfl o3 b3 | rintro e w2 ⟨vu, rfl, o3, b3⟩
            obtain ⟨b2, hb2⟩ : ∃ b, (wr.alloc (.cells #[.int .i32 r] 21)).heap.size = b := ⟨_, rfl⟩
            have hb2' : wr.heap.size + 1 = b2 := by rw [← hb2]; simp
            have hb2w : w.heap.size ≤ b2 := by omega
            rw [hb2'] at o3 b3
            rw [← hb2] at b3
            obtain ⟨au, cu, rfl, hau⟩ := owns_slice o3
            have H3 : Hid (w2.ownsRow w.heap.size 5 1 u3 (P0 ++ (us.take 0).flatMap hx4).length ((P0 ++ (us.take 0).flatMap hx4).map fun z => Value.int .u8 z) ∧ w2.ownsRow b1' 21 1 (.slice (some ⟨g, 0, none⟩) zs.length cz) zs.length (zs.map fun z => Value.int .i32 z) ∧ w2.ownsRow b2 30 1 (.slice au us.length cu) us.length (us.map fun z => Value.int .u16 z) ∧ Below w.heap.size w w2) := by
              rw [List.take_zero, List.flatMap_nil, List.append_nil]
              exact ⟨owns_below (O1.out.alloc _) b3, owns_below (O2.out.alloc _) b3, o3, (BL.out.alloc hwz _).trans (b3.mono (by simp; omega))⟩
            clear o3 b3 hb2 hb2'
            go_wp2
            go_loopw [3, 43] (fun x i wr => ∃ j : Nat, i = .int .i64 j ∧ j ≤ us.length ∧ Hid (wr.ownsRow w.heap.size 5 1 x (P0 ++ (us.take j).flatMap hx4).length ((P0 ++ (us.take j).flatMap hx4).map fun z => Value.int .u8 z) ∧ wr.ownsRow b1' 21 1 (.slice (some ⟨g, 0, none⟩) zs.length cz) zs.length (zs.map fun z => Value.int .i32 z) ∧ wr.ownsRow b2 30 1 (.slice au us.length cu) us.length (us.map fun z => Value.int .u16 z) ∧ Below w.heap.size w wr)) (fun _ i _ => us.length - (RowKit.intOf i).toNat)
            case atStart => exact ⟨0, rfl, Nat.zero_le _, H3⟩
            case round =>
              clear H3 O1 O2 BL KU2
              obtain ⟨j, rfl, hj, HJ⟩ := hrel
              by_cases l2 : j < us.length
              · have l2i : (j : Int) < (us.length : Int) := by omega
                obtain ⟨gu, rfl⟩ := hau (by omega)
                obtain ⟨y1, y2, y3, y4⟩ := HJ.out
                have hu0 : us[j]? = some (us.getD j 0) := by simp [List.getD, List.getElem?_eq_getElem l2]
                have hcu := owns_cell y3 rfl j (.int .u16 (us.getD j 0)) (by rw [List.getElem?_map, hu0]; rfl)
                have hur := HUR.out _ (List.mem_of_getElem? hu0)
                have hs2 := hx_step us j l2
                have hl6 := hx_len (us.take j)
                rw [List.length_take] at hl6
                obtain ⟨u, hu⟩ : ∃ u, us.getD j 0 = u := ⟨_, rfl⟩
                rw [hu] at hcu hur hs2
                obtain ⟨pre, hpre⟩ : ∃ pre, P0 ++ (us.take j).flatMap hx4 = pre := ⟨_, rfl⟩
                have hpl : pre.length ≤ 20000000 := by rw [← hpre, List.length_append, hl6]; omega
                have HPS : Hid (P0 ++ (us.take (j + 1)).flatMap hx4 = pre ++ hx4 u) := by unfold Hid; rw [hs2, ← List.append_assoc, hpre]
                rw [hpre] at y1
                obtain ⟨xo, hxo⟩ : ∃ xo, xo = u3 := ⟨_, rfl⟩
                rw [← hxo] at y1 ⊢
                obtain ⟨wq, hwq⟩ : ∃ wq, wq = wr := ⟨_, rfl⟩
                rw [← hwq] at y1 y2 y3 y4 hcu ⊢
                have HG : Hid (wq.ownsRow w.heap.size 5 1 xo pre.length (pre.map fun z => Value.int .u8 z) ∧ wq.ownsRow b1' 21 1 (.slice (some ⟨g, 0, none⟩) zs.length cz) zs.length (zs.map fun z => Value.int .i32 z) ∧ wq.ownsRow b2 30 1 (.slice (some ⟨gu, 0, none⟩) us.length cu) us.length (us.map fun z => Value.int .u16 z) ∧ Below w.heap.size w wq) := ⟨y1, y2, y3, y4⟩
                have HXO : Hid (∀ k, xo.ownBlock = some k → k < wq.heap.size) := fun k hk => (y1.lt k hk).2
                have hwq2 := y4.size
                clear y1 y2 y3 y4 HJ hu hs2 hpre hxo hwq hu0 hl6
                go_wp2
                refine wp_keep fun a0 ha0 => ?_
                have hz : a0.tmps.size = 68 := by rw [ha0]; rfl
                have s3 : a0.tmps[3]? = some xo := by rw [ha0]; rfl
                have s10 : a0.tmps[10]? = some (.int .u16 u) := by rw [ha0]; rfl
                have hcalm := fun i hi => gR_calm (xo := xo) (base := w.heap.size) (b1 := b1') (b2 := b2) (pre := pre) (zs := zs) (us := us) (vz := .slice (some ⟨g, 0, none⟩) zs.length cz) (vu := .slice (some ⟨gu, 0, none⟩) us.length cu) (w0 := w) (W0 := wq) (lR_stays (u := u) (xo := xo) (b3 := wq.heap.size) (base := w.heap.size) (pre := pre)) i hi
                have HA : Hid (a0 = _) := ha0
                clear ha0
                refine wp_region_turn (gR xo w.heap.size b1' b2 pre zs us (.slice (some ⟨g, 0, none⟩) zs.length cz) (.slice (some ⟨gu, 0, none⟩) us.length cu) w wq) (fun _ => nthP (lR u xo wq.heap.size w.heap.size pre)) 68 hz (by kernel_rfl) (by kernel_rfl) ?start ⟨?o0, ?o1, ?o2, ?o3, ?o4, ?o5, ?o6, ?o7, ?o8, ?o9, ?o10, ?o11, ?o12, ?o13, ?o14, ?o15, ?o16, ?o17, trivial⟩ ?done
                case start =>
                  intro w4 hb4 hs4 s hs
                  have G := HG.out
                  exact ⟨.inr (owns_below G.1 hb4), owns_below G.2.1 hb4, owns_below G.2.2.1 hb4, G.2.2.2.trans (hb4.mono G.2.2.2.size), hb4.size⟩
                case o0 =>
                  refine FlowOp4.plain (hcalm 0 (by decide)) fun a1 w4 s cx => ?_
                  have s3 := cx.keep 3 _ (by kernel_rfl) s3
                  refine ⟨wanted_none rfl, fun K hK => ?_⟩
                  exact wp_moved _ rfl _ (ev_tmp s3) (hK.out _ _ rfl (Below.refl _ _))
                case o1 =>
                  refine FlowOp4.plain (hcalm 1 (by decide)) fun a1 w4 s cx => ?_
                  have s10 := cx.keep 10 _ (by kernel_rfl) s10
                  refine ⟨wanted_none rfl, fun K hK => ?_⟩
                  exact wp_moved _ rfl _ (ev_tmp s10) (hK.out _ _ rfl (Below.refl _ _))
                case o2 =>
                  refine FlowOp4.plain (hcalm 2 (by decide)) fun a1 w4 s cx => ?_
                  obtain ⟨v48, s48, p48⟩ := cx.slot 1 48 (by kernel_rfl)
                  replace p48 : v48 = .int .u16 u := p48
                  subst p48
                  refine ⟨wanted_none rfl, fun K hK => ?_⟩
                  exact wp_gen [(48, .int .u16 u)] ⟨s48, trivial⟩ (by kernel_rfl) (run_quo w4 48 (u) 4096 (by omega) (by omega) (by decide) _ rfl) (hK.out _ _ rfl (Below.refl _ _))
                case o3 =>
                  refine FlowOp4.plain (hcalm 3 (by decide)) fun a1 w4 s cx => ?_
                  obtain ⟨v49, s49, p49⟩ := cx.slot 2 49 (by kernel_rfl)
                  replace p49 : v49 = .int .u16 (u / 4096) := p49
                  subst p49
                  refine ⟨wanted_none rfl, fun K hK => ?_⟩
                  exact wp_gen [(49, .int .u16 (u / 4096))] ⟨s49, trivial⟩ (by kernel_rfl) (run_dig w4 49 (u / 4096) (by omega) (by omega) _ rfl) (hK.out _ _ rfl (Below.refl _ _))
                case o4 =>
                  refine FlowOp4.plain (hcalm 4 (by decide)) fun a1 w4 s cx => ?_
                  have s10 := cx.keep 10 _ (by kernel_rfl) s10
                  refine ⟨wanted_none rfl, fun K hK => ?_⟩
                  exact wp_moved _ rfl _ (ev_tmp s10) (hK.out _ _ rfl (Below.refl _ _))
                case o5 =>
                  refine FlowOp4.plain (hcalm 5 (by decide)) fun a1 w4 s cx => ?_
                  obtain ⟨v51, s51, p51⟩ := cx.slot 4 51 (by kernel_rfl)
                  replace p51 : v51 = .int .u16 u := p51
                  subst p51
                  refine ⟨wanted_none rfl, fun K hK => ?_⟩
                  exact wp_gen [(51, .int .u16 u)] ⟨s51, trivial⟩ (by kernel_rfl) (run_quo w4 51 (u) 256 (by omega) (by omega) (by decide) _ rfl) (hK.out _ _ rfl (Below.refl _ _))
                case o6 =>
                  refine FlowOp4.plain (hcalm 6 (by decide)) fun a1 w4 s cx => ?_
                  obtain ⟨v52, s52, p52⟩ := cx.slot 5 52 (by kernel_rfl)
                  replace p52 : v52 = .int .u16 (u / 256) := p52
                  subst p52
                  refine ⟨wanted_none rfl, fun K hK => ?_⟩
                  exact wp_gen [(52, .int .u16 (u / 256))] ⟨s52, trivial⟩ (by kernel_rfl) (run_rem w4 52 (u / 256) (by omega) (by omega) _ rfl) (hK.out _ _ rfl (Below.refl _ _))
                case o7 =>
                  refine FlowOp4.plain (hcalm 7 (by decide)) fun a1 w4 s cx => ?_
                  obtain ⟨v53, s53, p53⟩ := cx.slot 6 53 (by kernel_rfl)
                  replace p53 : v53 = .int .u16 (u / 256 % 16) := p53
                  subst p53
                  refine ⟨wanted_none rfl, fun K hK => ?_⟩
                  exact wp_gen [(53, .int .u16 (u / 256 % 16))] ⟨s53, trivial⟩ (by kernel_rfl) (run_dig w4 53 (u / 256 % 16) (by omega) (by omega) _ rfl) (hK.out _ _ rfl (Below.refl _ _))
                case o8 =>
                  refine FlowOp4.plain (hcalm 8 (by decide)) fun a1 w4 s cx => ?_
                  have s10 := cx.keep 10 _ (by kernel_rfl) s10
                  refine ⟨wanted_none rfl, fun K hK => ?_⟩
                  exact wp_moved _ rfl _ (ev_tmp s10) (hK.out _ _ rfl (Below.refl _ _))
                case o9 =>
                  refine FlowOp4.plain (hcalm 9 (by decide)) fun a1 w4 s cx => ?_
                  obtain ⟨v55, s55, p55⟩ := cx.slot 8 55 (by kernel_rfl)
                  replace p55 : v55 = .int .u16 u := p55
                  subst p55
                  refine ⟨wanted_none rfl, fun K hK => ?_⟩
                  exact wp_gen [(55, .int .u16 u)] ⟨s55, trivial⟩ (by kernel_rfl) (run_quo w4 55 (u) 16 (by omega) (by omega) (by decide) _ rfl) (hK.out _ _ rfl (Below.refl _ _))
                case o10 =>
                  refine FlowOp4.plain (hcalm 10 (by decide)) fun a1 w4 s cx => ?_
                  obtain ⟨v56, s56, p56⟩ := cx.slot 9 56 (by kernel_rfl)
                  replace p56 : v56 = .int .u16 (u / 16) := p56
                  subst p56
                  refine ⟨wanted_none rfl, fun K hK => ?_⟩
                  exact wp_gen [(56, .int .u16 (u / 16))] ⟨s56, trivial⟩ (by kernel_rfl) (run_rem w4 56 (u / 16) (by omega) (by omega) _ rfl) (hK.out _ _ rfl (Below.refl _ _))
                case o11 =>
                  refine FlowOp4.plain (hcalm 11 (by decide)) fun a1 w4 s cx => ?_
                  obtain ⟨v57, s57, p57⟩ := cx.slot 10 57 (by kernel_rfl)
                  replace p57 : v57 = .int .u16 (u / 16 % 16) := p57
                  subst p57
                  refine ⟨wanted_none rfl, fun K hK => ?_⟩
                  exact wp_gen [(57, .int .u16 (u / 16 % 16))] ⟨s57, trivial⟩ (by kernel_rfl) (run_dig w4 57 (u / 16 % 16) (by omega) (by omega) _ rfl) (hK.out _ _ rfl (Below.refl _ _))
                case o12 =>
                  refine FlowOp4.plain (hcalm 12 (by decide)) fun a1 w4 s cx => ?_
                  have s10 := cx.keep 10 _ (by kernel_rfl) s10
                  refine ⟨wanted_none rfl, fun K hK => ?_⟩
                  exact wp_moved _ rfl _ (ev_tmp s10) (hK.out _ _ rfl (Below.refl _ _))
                case o13 =>
                  refine FlowOp4.plain (hcalm 13 (by decide)) fun a1 w4 s cx => ?_
                  obtain ⟨v59, s59, p59⟩ := cx.slot 12 59 (by kernel_rfl)
                  replace p59 : v59 = .int .u16 u := p59
                  subst p59
                  refine ⟨wanted_none rfl, fun K hK => ?_⟩
                  exact wp_gen [(59, .int .u16 u)] ⟨s59, trivial⟩ (by kernel_rfl) (run_rem w4 59 (u) (by omega) (by omega) _ rfl) (hK.out _ _ rfl (Below.refl _ _))
                case o14 =>
                  refine FlowOp4.plain (hcalm 14 (by decide)) fun a1 w4 s cx => ?_
                  obtain ⟨v60, s60, p60⟩ := cx.slot 13 60 (by kernel_rfl)
                  replace p60 : v60 = .int .u16 (u % 16) := p60
                  subst p60
                  refine ⟨wanted_none rfl, fun K hK => ?_⟩
                  exact wp_gen [(60, .int .u16 (u % 16))] ⟨s60, trivial⟩ (by kernel_rfl) (run_dig w4 60 (u % 16) (by omega) (by omega) _ rfl) (hK.out _ _ rfl (Below.refl _ _))
                case o15 =>
                  refine FlowOp4.plain (hcalm 15 (by decide)) fun a1 w4 s cx => ?_
                  obtain ⟨v50, s50, p50⟩ := cx.slot 3 50 (by kernel_rfl)
                  replace p50 : v50 = .int .u8 (dg (u / 4096)) := p50
                  subst p50
                  obtain ⟨v54, s54, p54⟩ := cx.slot 7 54 (by kernel_rfl)
                  replace p54 : v54 = .int .u8 (dg (u / 256 % 16)) := p54
                  subst p54
                  obtain ⟨v58, s58, p58⟩ := cx.slot 11 58 (by kernel_rfl)
                  replace p58 : v58 = .int .u8 (dg (u / 16 % 16)) := p58
                  subst p58
                  obtain ⟨v61, s61, p61⟩ := cx.slot 14 61 (by kernel_rfl)
                  replace p61 : v61 = .int .u8 (dg (u % 16)) := p61
                  subst p61
                  refine ⟨wanted_none rfl, fun K hK => ?_⟩
                  exact wp_gen [(50, .int .u8 (dg (u / 4096))), (54, .int .u8 (dg (u / 256 % 16))), (58, .int .u8 (dg (u / 16 % 16))), (61, .int .u8 (dg (u % 16)))] ⟨s50, s54, s58, s61, trivial⟩ (by kernel_rfl) (v := .slice (some ⟨w4.heap.size, 0, none⟩) 6 6) (w' := w4.alloc (.cells #[.int .u8 92, .int .u8 117, .int .u8 (dg (u / 4096)), .int .u8 (dg (u / 256 % 16)), .int .u8 (dg (u / 16 % 16)), .int .u8 (dg (u % 16))] 5)) (by kernel_rfl) (hK.out _ _ (own_six w4 wq.heap.size cx.ground.2.2.2.2 _ _ _ _ _ _) ((Below.refl _ _).alloc (Nat.le_refl _) _))
                case o16 =>
                  refine FlowOp4.turn fun a2 w4 s cx => ?_
                  obtain ⟨v47, s47, p47⟩ := cx.slot 0 47 (by kernel_rfl)
                  replace p47 : v47 = xo := p47
                  rw [p47] at s47
                  obtain ⟨v62, s62, p62⟩ := cx.slot 15 62 (by kernel_rfl)
                  replace p62 : w4.ownsRow wq.heap.size 5 1 v62 6 ((hx4 u).map fun z => Value.int .u8 z) := p62
                  obtain ⟨g1, g2, g3, g4, g5⟩ := cx.ground
                  replace g1 := g1.resolve_left (by rw [cx.new]; simp)
                  obtain ⟨a6, c6, e6, h6⟩ := owns_slice p62
                  obtain ⟨q6, rfl⟩ := h6 (by decide)
                  obtain ⟨v', w', hrun, hown', hgrow, _, _⟩ := run_append_own_at (P := Tryd.prog) (w := w4) w.heap.size 45 45 5 i0 (.int .u8 0) 1 1 Tryd.underlying45 hi hz0 hz1 hz2 rfl (by decide) xo pre.length _ g1 ⟨q6, 0, none⟩ 6 c6 ((hx4 u).map fun z => Value.int .u8 z) rfl (fun j y hj => by
                      have e : (⟨q6, 0, none⟩ : Addr).add j = ⟨q6, j, none⟩ := by simp [Addr.add]; intro h; omega
                      rw [e]
                      exact owns_cell p62 e6 j y hj) (by simp [Value.oneCell']) (by unfold maxLen; omega) (by omega) (Nat.le_trans (by omega) g5)
                  refine ⟨wanted_none rfl, fun K hK => ?_⟩
                  refine wp_gen [(47, xo), (62, v62)] ⟨s47, s62, trivial⟩ (by kernel_rfl) (run_app (.tmp 47) (.tmp 62) 45 rfl xo v62 v' (by simp [rho]) (by simp [rho, List.lookup]) (by rw [e6]; exact hrun)) ?_
                  refine hK.out v' w' ⟨.inl (by simp [mark]), g2.kept hgrow (owns_apart g2 g1 (by decide)), g3.kept hgrow (owns_apart g3 g1 (by decide)), g4.grown hgrow g4.size (fun j hj => (g1.lt j hj).1), Nat.le_trans g5 hgrow.size⟩ (by exact hown') (fun j y hj hu => lR_turn (fun q => by rw [q, cx.new] at hj; cases hj) (fun q => by subst q; have c16 := cx.down 17 _ rfl hj 16 (by kernel_rfl); rw [cx.new] at c16; cases c16) hgrow HXO.out hu)
                case o17 =>
                  refine FlowOp4.plain (hcalm 17 (by decide)) fun a1 w4 s cx => ?_
                  obtain ⟨v63, s63, p63⟩ := cx.slot 16 63 (by kernel_rfl)
                  refine ⟨wanted_none rfl, fun K hK => ?_⟩
                  exact wp_assigned _ rfl _ (ev_tmp s63) (hK.out _ _ p63 (Below.refl _ _))
                case done =>
                  intro a w4 ss hall hgr hsz hdf hkp hgot
                  obtain ⟨v47, s47, p47⟩ := got_slot4 (s := ss) (V := fun _ => nthP (lR u xo wq.heap.size w.heap.size pre)) hgot 0 47 (by kernel_rfl)
                  replace p47 : v47 = xo := p47
                  rw [p47] at s47
                  obtain ⟨v48, s48, p48⟩ := got_slot4 (s := ss) (V := fun _ => nthP (lR u xo wq.heap.size w.heap.size pre)) hgot 1 48 (by kernel_rfl)
                  replace p48 : v48 = .int .u16 u := p48
                  subst p48
                  obtain ⟨v49, s49, p49⟩ := got_slot4 (s := ss) (V := fun _ => nthP (lR u xo wq.heap.size w.heap.size pre)) hgot 2 49 (by kernel_rfl)
                  replace p49 : v49 = .int .u16 (u / 4096) := p49
                  subst p49
                  obtain ⟨v50, s50, p50⟩ := got_slot4 (s := ss) (V := fun _ => nthP (lR u xo wq.heap.size w.heap.size pre)) hgot 3 50 (by kernel_rfl)
                  replace p50 : v50 = .int .u8 (dg (u / 4096)) := p50
                  subst p50
                  obtain ⟨v51, s51, p51⟩ := got_slot4 (s := ss) (V := fun _ => nthP (lR u xo wq.heap.size w.heap.size pre)) hgot 4 51 (by kernel_rfl)
                  replace p51 : v51 = .int .u16 u := p51
                  subst p51
                  obtain ⟨v52, s52, p52⟩ := got_slot4 (s := ss) (V := fun _ => nthP (lR u xo wq.heap.size w.heap.size pre)) hgot 5 52 (by kernel_rfl)
                  replace p52 : v52 = .int .u16 (u / 256) := p52
                  subst p52
                  obtain ⟨v53, s53, p53⟩ := got_slot4 (s := ss) (V := fun _ => nthP (lR u xo wq.heap.size w.heap.size pre)) hgot 6 53 (by kernel_rfl)
                  replace p53 : v53 = .int .u16 (u / 256 % 16) := p53
                  subst p53
                  obtain ⟨v54, s54, p54⟩ := got_slot4 (s := ss) (V := fun _ => nthP (lR u xo wq.heap.size w.heap.size pre)) hgot 7 54 (by kernel_rfl)
                  replace p54 : v54 = .int .u8 (dg (u / 256 % 16)) := p54
                  subst p54
                  obtain ⟨v55, s55, p55⟩ := got_slot4 (s := ss) (V := fun _ => nthP (lR u xo wq.heap.size w.heap.size pre)) hgot 8 55 (by kernel_rfl)
                  replace p55 : v55 = .int .u16 u := p55
                  subst p55
                  obtain ⟨v56, s56, p56⟩ := got_slot4 (s := ss) (V := fun _ => nthP (lR u xo wq.heap.size w.heap.size pre)) hgot 9 56 (by kernel_rfl)
                  replace p56 : v56 = .int .u16 (u / 16) := p56
                  subst p56
                  obtain ⟨v57, s57, p57⟩ := got_slot4 (s := ss) (V := fun _ => nthP (lR u xo wq.heap.size w.heap.size pre)) hgot 10 57 (by kernel_rfl)
                  replace p57 : v57 = .int .u16 (u / 16 % 16) := p57
                  subst p57
                  obtain ⟨v58, s58, p58⟩ := got_slot4 (s := ss) (V := fun _ => nthP (lR u xo wq.heap.size w.heap.size pre)) hgot 11 58 (by kernel_rfl)
                  replace p58 : v58 = .int .u8 (dg (u / 16 % 16)) := p58
                  subst p58
                  obtain ⟨v59, s59, p59⟩ := got_slot4 (s := ss) (V := fun _ => nthP (lR u xo wq.heap.size w.heap.size pre)) hgot 12 59 (by kernel_rfl)
                  replace p59 : v59 = .int .u16 u := p59
                  subst p59
                  obtain ⟨v60, s60, p60⟩ := got_slot4 (s := ss) (V := fun _ => nthP (lR u xo wq.heap.size w.heap.size pre)) hgot 13 60 (by kernel_rfl)
                  replace p60 : v60 = .int .u16 (u % 16) := p60
                  subst p60
                  obtain ⟨v61, s61, p61⟩ := got_slot4 (s := ss) (V := fun _ => nthP (lR u xo wq.heap.size w.heap.size pre)) hgot 14 61 (by kernel_rfl)
                  replace p61 : v61 = .int .u8 (dg (u % 16)) := p61
                  subst p61
                  obtain ⟨v62, s62, p62⟩ := got_slot4 (s := ss) (V := fun _ => nthP (lR u xo wq.heap.size w.heap.size pre)) hgot 15 62 (by kernel_rfl)
                  obtain ⟨v63, s63, p63⟩ := got_slot4 (s := ss) (V := fun _ => nthP (lR u xo wq.heap.size w.heap.size pre)) hgot 16 63 (by kernel_rfl)
                  obtain ⟨v3, s3, p3⟩ := got_slot4 (s := ss) (V := fun _ => nthP (lR u xo wq.heap.size w.heap.size pre)) hgot 17 3 (by kernel_rfl)
                  have ha := act_is a a0 [(47, xo), (48, .int .u16 u), (49, .int .u16 (u / 4096)), (50, .int .u8 (dg (u / 4096))), (51, .int .u16 u), (52, .int .u16 (u / 256)), (53, .int .u16 (u / 256 % 16)), (54, .int .u8 (dg (u / 256 % 16))), (55, .int .u16 u), (56, .int .u16 (u / 16)), (57, .int .u16 (u / 16 % 16)), (58, .int .u8 (dg (u / 16 % 16))), (59, .int .u16 u), (60, .int .u16 (u % 16)), (61, .int .u8 (dg (u % 16))), (62, v62), (63, v63), (3, v3)] (by rw [hsz, hz]) hdf (fun t ht => hkp t (keptAll_of (l := ([(47, xo), (48, .int .u16 u), (49, .int .u16 (u / 4096)), (50, .int .u8 (dg (u / 4096))), (51, .int .u16 u), (52, .int .u16 (u / 256)), (53, .int .u16 (u / 256 % 16)), (54, .int .u8 (dg (u / 256 % 16))), (55, .int .u16 u), (56, .int .u16 (u / 16)), (57, .int .u16 (u / 16 % 16)), (58, .int .u8 (dg (u / 16 % 16))), (59, .int .u16 u), (60, .int .u16 (u % 16)), (61, .int .u8 (dg (u % 16))), (62, v62), (63, v63), (3, v3)] : List (Nat × Value)).map (·.1)) (by kernel_rfl) t ht)) ⟨s47, s48, s49, s50, s51, s52, s53, s54, s55, s56, s57, s58, s59, s60, s61, s62, s63, s3, trivial⟩
                  rw [HA.out] at ha
                  obtain ⟨_, y2, y3, y4, y5⟩ := hgr
                  replace p3 : w4.ownsRow w.heap.size 5 1 v3 (pre.length + 6) ((pre.map fun z => Value.int .u8 z) ++ (hx4 u).map fun z => Value.int .u8 z) := p3
                  have HF : Hid (w4.ownsRow w.heap.size 5 1 v3 (pre ++ hx4 u).length ((pre ++ hx4 u).map fun z => Value.int .u8 z) ∧ w4.ownsRow b1' 21 1 (.slice (some ⟨g, 0, none⟩) zs.length cz) zs.length (zs.map fun z => Value.int .i32 z) ∧ w4.ownsRow b2 30 1 (.slice (some ⟨gu, 0, none⟩) us.length cu) us.length (us.map fun z => Value.int .u16 z) ∧ Below w.heap.size w w4) := ⟨by rw [List.length_append, hx4_len, List.map_append]; exact p3, y2, y3, y4⟩
                  rw [ha]
                  clear ha hkp hgot p62 p63 p3 HA hcalm y2 y3 y4 y5
                  simp only [List.foldl_cons, List.foldl_nil, List.setIfInBounds_toArray, List.set_cons_succ, List.set_cons_zero]
                  go_wp2
                  exact ⟨⟨j + 1, by go_num, by omega, by rw [HPS.out]; exact HF⟩, by simp [RowKit.intOf]; omega⟩
              · have l2i : ¬ (j : Int) < (us.length : Int) := by omega
                have ej : j = us.length := by omega
                have HF : Hid (wr.ownsRow w.heap.size 5 1 u3 (escL (zs.take (k + 1))).length ((escL (zs.take (k + 1))).map fun z => Value.int .u8 z) ∧ wr.ownsRow b1' 21 1 (.slice (some ⟨g, 0, none⟩) zs.length cz) zs.length (zs.map fun z => Value.int .i32 z) ∧ Below w.heap.size w wr) := by
                  obtain ⟨y1, y2, y3, y4⟩ := HJ.out
                  rw [ej, List.take_length] at y1
                  exact ⟨by rw [HST.out]; exact y1, y2, y4⟩
                clear HJ ej
                go_wp2
                exact ⟨⟨k + 1, by go_num, by omega, HF⟩, by simp [RowKit.intOf]; omega⟩
        · clear WAY
          clear hv2 hp
          go_wp2_with (go_at_call 26; refine KU2.out.mono ?_)
          first | rintro e w2 vu rfl o3 b3 | rintro e w2 ⟨vu, rfl, o3, b3⟩
          obtain ⟨b2, hb2⟩ : ∃ b, (wr.alloc (.cells #[.int .i32 r] 21)).heap.size = b := ⟨_, rfl⟩
          have hb2' : wr.heap.size + 1 = b2 := by rw [← hb2]; simp
          have hb2w : w.heap.size ≤ b2 := by omega
          rw [hb2'] at o3 b3
          rw [← hb2] at b3
          obtain ⟨au, cu, rfl, hau⟩ := owns_slice o3
          have H3 : Hid (w2.ownsRow w.heap.size 5 1 u3 (P0 ++ (us.take 0).flatMap hx4).length ((P0 ++ (us.take 0).flatMap hx4).map fun z => Value.int .u8 z) ∧ w2.ownsRow b1' 21 1 (.slice (some ⟨g, 0, none⟩) zs.length cz) zs.length (zs.map fun z => Value.int .i32 z) ∧ w2.ownsRow b2 30 1 (.slice au us.length cu) us.length (us.map fun z => Value.int .u16 z) ∧ Below w.heap.size w w2) := by
            rw [List.take_zero, List.flatMap_nil, List.append_nil]
            exact ⟨owns_below (O1.out.alloc _) b3, owns_below (O2.out.alloc _) b3, o3, (BL.out.alloc hwz _).trans (b3.mono (by simp; omega))⟩
          clear o3 b3 hb2 hb2'
          go_wp2
          go_loopw [3, 43] (fun x i wr => ∃ j : Nat, i = .int .i64 j ∧ j ≤ us.length ∧ Hid (wr.ownsRow w.heap.size 5 1 x (P0 ++ (us.take j).flatMap hx4).length ((P0 ++ (us.take j).flatMap hx4).map fun z => Value.int .u8 z) ∧ wr.ownsRow b1' 21 1 (.slice (some ⟨g, 0, none⟩) zs.length cz) zs.length (zs.map fun z => Value.int .i32 z) ∧ wr.ownsRow b2 30 1 (.slice au us.length cu) us.length (us.map fun z => Value.int .u16 z) ∧ Below w.heap.size w wr)) (fun _ i _ => us.length - (RowKit.intOf i).toNat)
          case atStart => exact ⟨0, rfl, Nat.zero_le _, H3⟩
          case round =>
            clear H3 O1 O2 BL KU2
            obtain ⟨j, rfl, hj, HJ⟩ := hrel
            by_cases l2 : j < us.length
            · have l2i : (j : Int) < (us.length : Int) := by omega
              obtain ⟨gu, rfl⟩ := hau (by omega)
              obtain ⟨y1, y2, y3, y4⟩ := HJ.out
              have hu0 : us[j]? = some (us.getD j 0) := by simp [List.getD, List.getElem?_eq_getElem l2]
              have hcu := owns_cell y3 rfl j (.int .u16 (us.getD j 0)) (by rw [List.getElem?_map, hu0]; rfl)
              have hur := HUR.out _ (List.mem_of_getElem? hu0)
              have hs2 := hx_step us j l2
              have hl6 := hx_len (us.take j)
              rw [List.length_take] at hl6
              obtain ⟨u, hu⟩ : ∃ u, us.getD j 0 = u := ⟨_, rfl⟩
              rw [hu] at hcu hur hs2
              obtain ⟨pre, hpre⟩ : ∃ pre, P0 ++ (us.take j).flatMap hx4 = pre := ⟨_, rfl⟩
              have hpl : pre.length ≤ 20000000 := by rw [← hpre, List.length_append, hl6]; omega
              have HPS : Hid (P0 ++ (us.take (j + 1)).flatMap hx4 = pre ++ hx4 u) := by unfold Hid; rw [hs2, ← List.append_assoc, hpre]
              rw [hpre] at y1
              obtain ⟨xo, hxo⟩ : ∃ xo, xo = u3 := ⟨_, rfl⟩
              rw [← hxo] at y1 ⊢
              obtain ⟨wq, hwq⟩ : ∃ wq, wq = wr := ⟨_, rfl⟩
              rw [← hwq] at y1 y2 y3 y4 hcu ⊢
              have HG : Hid (wq.ownsRow w.heap.size 5 1 xo pre.length (pre.map fun z => Value.int .u8 z) ∧ wq.ownsRow b1' 21 1 (.slice (some ⟨g, 0, none⟩) zs.length cz) zs.length (zs.map fun z => Value.int .i32 z) ∧ wq.ownsRow b2 30 1 (.slice (some ⟨gu, 0, none⟩) us.length cu) us.length (us.map fun z => Value.int .u16 z) ∧ Below w.heap.size w wq) := ⟨y1, y2, y3, y4⟩
              have HXO : Hid (∀ k, xo.ownBlock = some k → k < wq.heap.size) := fun k hk => (y1.lt k hk).2
              have hwq2 := y4.size
              clear y1 y2 y3 y4 HJ hu hs2 hpre hxo hwq hu0 hl6
              go_wp2
              refine wp_keep fun a0 ha0 => ?_
              have hz : a0.tmps.size = 68 := by rw [ha0]; rfl
              have s3 : a0.tmps[3]? = some xo := by rw [ha0]; rfl
              have s10 : a0.tmps[10]? = some (.int .u16 u) := by rw [ha0]; rfl
              have hcalm := fun i hi => gR_calm (xo := xo) (base := w.heap.size) (b1 := b1') (b2 := b2) (pre := pre) (zs := zs) (us := us) (vz := .slice (some ⟨g, 0, none⟩) zs.length cz) (vu := .slice (some ⟨gu, 0, none⟩) us.length cu) (w0 := w) (W0 := wq) (lR_stays (u := u) (xo := xo) (b3 := wq.heap.size) (base := w.heap.size) (pre := pre)) i hi
              have HA : Hid (a0 = _) := ha0
              clear ha0
              refine wp_region_turn (gR xo w.heap.size b1' b2 pre zs us (.slice (some ⟨g, 0, none⟩) zs.length cz) (.slice (some ⟨gu, 0, none⟩) us.length cu) w wq) (fun _ => nthP (lR u xo wq.heap.size w.heap.size pre)) 68 hz (by kernel_rfl) (by kernel_rfl) ?start ⟨?o0, ?o1, ?o2, ?o3, ?o4, ?o5, ?o6, ?o7, ?o8, ?o9, ?o10, ?o11, ?o12, ?o13, ?o14, ?o15, ?o16, ?o17, trivial⟩ ?done
              case start =>
                intro w4 hb4 hs4 s hs
                have G := HG.out
                exact ⟨.inr (owns_below G.1 hb4), owns_below G.2.1 hb4, owns_below G.2.2.1 hb4, G.2.2.2.trans (hb4.mono G.2.2.2.size), hb4.size⟩
              case o0 =>
                refine FlowOp4.plain (hcalm 0 (by decide)) fun a1 w4 s cx => ?_
                have s3 := cx.keep 3 _ (by kernel_rfl) s3
                refine ⟨wanted_none rfl, fun K hK => ?_⟩
                exact wp_moved _ rfl _ (ev_tmp s3) (hK.out _ _ rfl (Below.refl _ _))
              case o1 =>
                refine FlowOp4.plain (hcalm 1 (by decide)) fun a1 w4 s cx => ?_
                have s10 := cx.keep 10 _ (by kernel_rfl) s10
                refine ⟨wanted_none rfl, fun K hK => ?_⟩
                exact wp_moved _ rfl _ (ev_tmp s10) (hK.out _ _ rfl (Below.refl _ _))
              case o2 =>
                refine FlowOp4.plain (hcalm 2 (by decide)) fun a1 w4 s cx => ?_
                obtain ⟨v48, s48, p48⟩ := cx.slot 1 48 (by kernel_rfl)
                replace p48 : v48 = .int .u16 u := p48
                subst p48
                refine ⟨wanted_none rfl, fun K hK => ?_⟩
                exact wp_gen [(48, .int .u16 u)] ⟨s48, trivial⟩ (by kernel_rfl) (run_quo w4 48 (u) 4096 (by omega) (by omega) (by decide) _ rfl) (hK.out _ _ rfl (Below.refl _ _))
              case o3 =>
                refine FlowOp4.plain (hcalm 3 (by decide)) fun a1 w4 s cx => ?_
                obtain ⟨v49, s49, p49⟩ := cx.slot 2 49 (by kernel_rfl)
                replace p49 : v49 = .int .u16 (u / 4096) := p49
                subst p49
                refine ⟨wanted_none rfl, fun K hK => ?_⟩
                exact wp_gen [(49, .int .u16 (u / 4096))] ⟨s49, trivial⟩ (by kernel_rfl) (run_dig w4 49 (u / 4096) (by omega) (by omega) _ rfl) (hK.out _ _ rfl (Below.refl _ _))
              case o4 =>
                refine FlowOp4.plain (hcalm 4 (by decide)) fun a1 w4 s cx => ?_
                have s10 := cx.keep 10 _ (by kernel_rfl) s10
                refine ⟨wanted_none rfl, fun K hK => ?_⟩
                exact wp_moved _ rfl _ (ev_tmp s10) (hK.out _ _ rfl (Below.refl _ _))
              case o5 =>
                refine FlowOp4.plain (hcalm 5 (by decide)) fun a1 w4 s cx => ?_
                obtain ⟨v51, s51, p51⟩ := cx.slot 4 51 (by kernel_rfl)
                replace p51 : v51 = .int .u16 u := p51
                subst p51
                refine ⟨wanted_none rfl, fun K hK => ?_⟩
                exact wp_gen [(51, .int .u16 u)] ⟨s51, trivial⟩ (by kernel_rfl) (run_quo w4 51 (u) 256 (by omega) (by omega) (by decide) _ rfl) (hK.out _ _ rfl (Below.refl _ _))
              case o6 =>
                refine FlowOp4.plain (hcalm 6 (by decide)) fun a1 w4 s cx => ?_
                obtain ⟨v52, s52, p52⟩ := cx.slot 5 52 (by kernel_rfl)
                replace p52 : v52 = .int .u16 (u / 256) := p52
                subst p52
                refine ⟨wanted_none rfl, fun K hK => ?_⟩
                exact wp_gen [(52, .int .u16 (u / 256))] ⟨s52, trivial⟩ (by kernel_rfl) (run_rem w4 52 (u / 256) (by omega) (by omega) _ rfl) (hK.out _ _ rfl (Below.refl _ _))
              case o7 =>
                refine FlowOp4.plain (hcalm 7 (by decide)) fun a1 w4 s cx => ?_
                obtain ⟨v53, s53, p53⟩ := cx.slot 6 53 (by kernel_rfl)
                replace p53 : v53 = .int .u16 (u / 256 % 16) := p53
                subst p53
                refine ⟨wanted_none rfl, fun K hK => ?_⟩
                exact wp_gen [(53, .int .u16 (u / 256 % 16))] ⟨s53, trivial⟩ (by kernel_rfl) (run_dig w4 53 (u / 256 % 16) (by omega) (by omega) _ rfl) (hK.out _ _ rfl (Below.refl _ _))
              case o8 =>
                refine FlowOp4.plain (hcalm 8 (by decide)) fun a1 w4 s cx => ?_
                have s10 := cx.keep 10 _ (by kernel_rfl) s10
                refine ⟨wanted_none rfl, fun K hK => ?_⟩
                exact wp_moved _ rfl _ (ev_tmp s10) (hK.out _ _ rfl (Below.refl _ _))
              case o9 =>
                refine FlowOp4.plain (hcalm 9 (by decide)) fun a1 w4 s cx => ?_
                obtain ⟨v55, s55, p55⟩ := cx.slot 8 55 (by kernel_rfl)
                replace p55 : v55 = .int .u16 u := p55
                subst p55
                refine ⟨wanted_none rfl, fun K hK => ?_⟩
                exact wp_gen [(55, .int .u16 u)] ⟨s55, trivial⟩ (by kernel_rfl) (run_quo w4 55 (u) 16 (by omega) (by omega) (by decide) _ rfl) (hK.out _ _ rfl (Below.refl _ _))
              case o10 =>
                refine FlowOp4.plain (hcalm 10 (by decide)) fun a1 w4 s cx => ?_
                obtain ⟨v56, s56, p56⟩ := cx.slot 9 56 (by kernel_rfl)
                replace p56 : v56 = .int .u16 (u / 16) := p56
                subst p56
                refine ⟨wanted_none rfl, fun K hK => ?_⟩
                exact wp_gen [(56, .int .u16 (u / 16))] ⟨s56, trivial⟩ (by kernel_rfl) (run_rem w4 56 (u / 16) (by omega) (by omega) _ rfl) (hK.out _ _ rfl (Below.refl _ _))
              case o11 =>
                refine FlowOp4.plain (hcalm 11 (by decide)) fun a1 w4 s cx => ?_
                obtain ⟨v57, s57, p57⟩ := cx.slot 10 57 (by kernel_rfl)
                replace p57 : v57 = .int .u16 (u / 16 % 16) := p57
                subst p57
                refine ⟨wanted_none rfl, fun K hK => ?_⟩
                exact wp_gen [(57, .int .u16 (u / 16 % 16))] ⟨s57, trivial⟩ (by kernel_rfl) (run_dig w4 57 (u / 16 % 16) (by omega) (by omega) _ rfl) (hK.out _ _ rfl (Below.refl _ _))
              case o12 =>
                refine FlowOp4.plain (hcalm 12 (by decide)) fun a1 w4 s cx => ?_
                have s10 := cx.keep 10 _ (by kernel_rfl) s10
                refine ⟨wanted_none rfl, fun K hK => ?_⟩
                exact wp_moved _ rfl _ (ev_tmp s10) (hK.out _ _ rfl (Below.refl _ _))
              case o13 =>
                refine FlowOp4.plain (hcalm 13 (by decide)) fun a1 w4 s cx => ?_
                obtain ⟨v59, s59, p59⟩ := cx.slot 12 59 (by kernel_rfl)
                replace p59 : v59 = .int .u16 u := p59
                subst p59
                refine ⟨wanted_none rfl, fun K hK => ?_⟩
                exact wp_gen [(59, .int .u16 u)] ⟨s59, trivial⟩ (by kernel_rfl) (run_rem w4 59 (u) (by omega) (by omega) _ rfl) (hK.out _ _ rfl (Below.refl _ _))
              case o14 =>
                refine FlowOp4.plain (hcalm 14 (by decide)) fun a1 w4 s cx => ?_
                obtain ⟨v60, s60, p60⟩ := cx.slot 13 60 (by kernel_rfl)
                replace p60 : v60 = .int .u16 (u % 16) := p60
                subst p60
                refine ⟨wanted_none rfl, fun K hK => ?_⟩
                exact wp_gen [(60, .int .u16 (u % 16))] ⟨s60, trivial⟩ (by kernel_rfl) (run_dig w4 60 (u % 16) (by omega) (by omega) _ rfl) (hK.out _ _ rfl (Below.refl _ _))
              case o15 =>
                refine FlowOp4.plain (hcalm 15 (by decide)) fun a1 w4 s cx => ?_
                obtain ⟨v50, s50, p50⟩ := cx.slot 3 50 (by kernel_rfl)
                replace p50 : v50 = .int .u8 (dg (u / 4096)) := p50
                subst p50
                obtain ⟨v54, s54, p54⟩ := cx.slot 7 54 (by kernel_rfl)
                replace p54 : v54 = .int .u8 (dg (u / 256 % 16)) := p54
                subst p54
                obtain ⟨v58, s58, p58⟩ := cx.slot 11 58 (by kernel_rfl)
                replace p58 : v58 = .int .u8 (dg (u / 16 % 16)) := p58
                subst p58
                obtain ⟨v61, s61, p61⟩ := cx.slot 14 61 (by kernel_rfl)
                replace p61 : v61 = .int .u8 (dg (u % 16)) := p61
                subst p61
                refine ⟨wanted_none rfl, fun K hK => ?_⟩
                exact wp_gen [(50, .int .u8 (dg (u / 4096))), (54, .int .u8 (dg (u / 256 % 16))), (58, .int .u8 (dg (u / 16 % 16))), (61, .int .u8 (dg (u % 16)))] ⟨s50, s54, s58, s61, trivial⟩ (by kernel_rfl) (v := .slice (some ⟨w4.heap.size, 0, none⟩) 6 6) (w' := w4.alloc (.cells #[.int .u8 92, .int .u8 117, .int .u8 (dg (u / 4096)), .int .u8 (dg (u / 256 % 16)), .int .u8 (dg (u / 16 % 16)), .int .u8 (dg (u % 16))] 5)) (by kernel_rfl) (hK.out _ _ (own_six w4 wq.heap.size cx.ground.2.2.2.2 _ _ _ _ _ _) ((Below.refl _ _).alloc (Nat.le_refl _) _))
              case o16 =>
                refine FlowOp4.turn fun a2 w4 s cx => ?_
                obtain ⟨v47, s47, p47⟩ := cx.slot 0 47 (by kernel_rfl)
                replace p47 : v47 = xo := p47
                rw [p47] at s47
                obtain ⟨v62, s62, p62⟩ := cx.slot 15 62 (by kernel_rfl)
                replace p62 : w4.ownsRow wq.heap.size 5 1 v62 6 ((hx4 u).map fun z => Value.int .u8 z) := p62
                obtain ⟨g1, g2, g3, g4, g5⟩ := cx.ground
                replace g1 := g1.resolve_left (by rw [cx.new]; simp)
                obtain ⟨a6, c6, e6, h6⟩ := owns_slice p62
                obtain ⟨q6, rfl⟩ := h6 (by decide)
                obtain ⟨v', w', hrun, hown', hgrow, _, _⟩ := run_append_own_at (P := Tryd.prog) (w := w4) w.heap.size 45 45 5 i0 (.int .u8 0) 1 1 Tryd.underlying45 hi hz0 hz1 hz2 rfl (by decide) xo pre.length _ g1 ⟨q6, 0, none⟩ 6 c6 ((hx4 u).map fun z => Value.int .u8 z) rfl (fun j y hj => by
                    have e : (⟨q6, 0, none⟩ : Addr).add j = ⟨q6, j, none⟩ := by simp [Addr.add]; intro h; omega
                    rw [e]
                    exact owns_cell p62 e6 j y hj) (by simp [Value.oneCell']) (by unfold maxLen; omega) (by omega) (Nat.le_trans (by omega) g5)
                refine ⟨wanted_none rfl, fun K hK => ?_⟩
                refine wp_gen [(47, xo), (62, v62)] ⟨s47, s62, trivial⟩ (by kernel_rfl) (run_app (.tmp 47) (.tmp 62) 45 rfl xo v62 v' (by simp [rho]) (by simp [rho, List.lookup]) (by rw [e6]; exact hrun)) ?_
                refine hK.out v' w' ⟨.inl (by simp [mark]), g2.kept hgrow (owns_apart g2 g1 (by decide)), g3.kept hgrow (owns_apart g3 g1 (by decide)), g4.grown hgrow g4.size (fun j hj => (g1.lt j hj).1), Nat.le_trans g5 hgrow.size⟩ (by exact hown') (fun j y hj hu => lR_turn (fun q => by rw [q, cx.new] at hj; cases hj) (fun q => by subst q; have c16 := cx.down 17 _ rfl hj 16 (by kernel_rfl); rw [cx.new] at c16; cases c16) hgrow HXO.out hu)
              case o17 =>
                refine FlowOp4.plain (hcalm 17 (by decide)) fun a1 w4 s cx => ?_
                obtain ⟨v63, s63, p63⟩ := cx.slot 16 63 (by kernel_rfl)
                refine ⟨wanted_none rfl, fun K hK => ?_⟩
                exact wp_assigned _ rfl _ (ev_tmp s63) (hK.out _ _ p63 (Below.refl _ _))
              case done =>
                intro a w4 ss hall hgr hsz hdf hkp hgot
                obtain ⟨v47, s47, p47⟩ := got_slot4 (s := ss) (V := fun _ => nthP (lR u xo wq.heap.size w.heap.size pre)) hgot 0 47 (by kernel_rfl)
                replace p47 : v47 = xo := p47
                rw [p47] at s47
                obtain ⟨v48, s48, p48⟩ := got_slot4 (s := ss) (V := fun _ => nthP (lR u xo wq.heap.size w.heap.size pre)) hgot 1 48 (by kernel_rfl)
                replace p48 : v48 = .int .u16 u := p48
                subst p48
                obtain ⟨v49, s49, p49⟩ := got_slot4 (s := ss) (V := fun _ => nthP (lR u xo wq.heap.size w.heap.size pre)) hgot 2 49 (by kernel_rfl)
                replace p49 : v49 = .int .u16 (u / 4096) := p49
                subst p49
                obtain ⟨v50, s50, p50⟩ := got_slot4 (s := ss) (V := fun _ => nthP (lR u xo wq.heap.size w.heap.size pre)) hgot 3 50 (by kernel_rfl)
                replace p50 : v50 = .int .u8 (dg (u / 4096)) := p50
                subst p50
                obtain ⟨v51, s51, p51⟩ := got_slot4 (s := ss) (V := fun _ => nthP (lR u xo wq.heap.size w.heap.size pre)) hgot 4 51 (by kernel_rfl)
                replace p51 : v51 = .int .u16 u := p51
                subst p51
                obtain ⟨v52, s52, p52⟩ := got_slot4 (s := ss) (V := fun _ => nthP (lR u xo wq.heap.size w.heap.size pre)) hgot 5 52 (by kernel_rfl)
                replace p52 : v52 = .int .u16 (u / 256) := p52
                subst p52
                obtain ⟨v53, s53, p53⟩ := got_slot4 (s := ss) (V := fun _ => nthP (lR u xo wq.heap.size w.heap.size pre)) hgot 6 53 (by kernel_rfl)
                replace p53 : v53 = .int .u16 (u / 256 % 16) := p53
                subst p53
                obtain ⟨v54, s54, p54⟩ := got_slot4 (s := ss) (V := fun _ => nthP (lR u xo wq.heap.size w.heap.size pre)) hgot 7 54 (by kernel_rfl)
                replace p54 : v54 = .int .u8 (dg (u / 256 % 16)) := p54
                subst p54
                obtain ⟨v55, s55, p55⟩ := got_slot4 (s := ss) (V := fun _ => nthP (lR u xo wq.heap.size w.heap.size pre)) hgot 8 55 (by kernel_rfl)
                replace p55 : v55 = .int .u16 u := p55
                subst p55
                obtain ⟨v56, s56, p56⟩ := got_slot4 (s := ss) (V := fun _ => nthP (lR u xo wq.heap.size w.heap.size pre)) hgot 9 56 (by kernel_rfl)
                replace p56 : v56 = .int .u16 (u / 16) := p56
                subst p56
                obtain ⟨v57, s57, p57⟩ := got_slot4 (s := ss) (V := fun _ => nthP (lR u xo wq.heap.size w.heap.size pre)) hgot 10 57 (by kernel_rfl)
                replace p57 : v57 = .int .u16 (u / 16 % 16) := p57
                subst p57
                obtain ⟨v58, s58, p58⟩ := got_slot4 (s := ss) (V := fun _ => nthP (lR u xo wq.heap.size w.heap.size pre)) hgot 11 58 (by kernel_rfl)
                replace p58 : v58 = .int .u8 (dg (u / 16 % 16)) := p58
                subst p58
                obtain ⟨v59, s59, p59⟩ := got_slot4 (s := ss) (V := fun _ => nthP (lR u xo wq.heap.size w.heap.size pre)) hgot 12 59 (by kernel_rfl)
                replace p59 : v59 = .int .u16 u := p59
                subst p59
                obtain ⟨v60, s60, p60⟩ := got_slot4 (s := ss) (V := fun _ => nthP (lR u xo wq.heap.size w.heap.size pre)) hgot 13 60 (by kernel_rfl)
                replace p60 : v60 = .int .u16 (u % 16) := p60
                subst p60
                obtain ⟨v61, s61, p61⟩ := got_slot4 (s := ss) (V := fun _ => nthP (lR u xo wq.heap.size w.heap.size pre)) hgot 14 61 (by kernel_rfl)
                replace p61 : v61 = .int .u8 (dg (u % 16)) := p61
                subst p61
                obtain ⟨v62, s62, p62⟩ := got_slot4 (s := ss) (V := fun _ => nthP (lR u xo wq.heap.size w.heap.size pre)) hgot 15 62 (by kernel_rfl)
                obtain ⟨v63, s63, p63⟩ := got_slot4 (s := ss) (V := fun _ => nthP (lR u xo wq.heap.size w.heap.size pre)) hgot 16 63 (by kernel_rfl)
                obtain ⟨v3, s3, p3⟩ := got_slot4 (s := ss) (V := fun _ => nthP (lR u xo wq.heap.size w.heap.size pre)) hgot 17 3 (by kernel_rfl)
                have ha := act_is a a0 [(47, xo), (48, .int .u16 u), (49, .int .u16 (u / 4096)), (50, .int .u8 (dg (u / 4096))), (51, .int .u16 u), (52, .int .u16 (u / 256)), (53, .int .u16 (u / 256 % 16)), (54, .int .u8 (dg (u / 256 % 16))), (55, .int .u16 u), (56, .int .u16 (u / 16)), (57, .int .u16 (u / 16 % 16)), (58, .int .u8 (dg (u / 16 % 16))), (59, .int .u16 u), (60, .int .u16 (u % 16)), (61, .int .u8 (dg (u % 16))), (62, v62), (63, v63), (3, v3)] (by rw [hsz, hz]) hdf (fun t ht => hkp t (keptAll_of (l := ([(47, xo), (48, .int .u16 u), (49, .int .u16 (u / 4096)), (50, .int .u8 (dg (u / 4096))), (51, .int .u16 u), (52, .int .u16 (u / 256)), (53, .int .u16 (u / 256 % 16)), (54, .int .u8 (dg (u / 256 % 16))), (55, .int .u16 u), (56, .int .u16 (u / 16)), (57, .int .u16 (u / 16 % 16)), (58, .int .u8 (dg (u / 16 % 16))), (59, .int .u16 u), (60, .int .u16 (u % 16)), (61, .int .u8 (dg (u % 16))), (62, v62), (63, v63), (3, v3)] : List (Nat × Value)).map (·.1)) (by kernel_rfl) t ht)) ⟨s47, s48, s49, s50, s51, s52, s53, s54, s55, s56, s57, s58, s59, s60, s61, s62, s63, s3, trivial⟩
                rw [HA.out] at ha
                obtain ⟨_, y2, y3, y4, y5⟩ := hgr
                replace p3 : w4.ownsRow w.heap.size 5 1 v3 (pre.length + 6) ((pre.map fun z => Value.int .u8 z) ++ (hx4 u).map fun z => Value.int .u8 z) := p3
                have HF : Hid (w4.ownsRow w.heap.size 5 1 v3 (pre ++ hx4 u).length ((pre ++ hx4 u).map fun z => Value.int .u8 z) ∧ w4.ownsRow b1' 21 1 (.slice (some ⟨g, 0, none⟩) zs.length cz) zs.length (zs.map fun z => Value.int .i32 z) ∧ w4.ownsRow b2 30 1 (.slice (some ⟨gu, 0, none⟩) us.length cu) us.length (us.map fun z => Value.int .u16 z) ∧ Below w.heap.size w w4) := ⟨by rw [List.length_append, hx4_len, List.map_append]; exact p3, y2, y3, y4⟩
                rw [ha]
                clear ha hkp hgot p62 p63 p3 HA hcalm y2 y3 y4 y5
                simp only [List.foldl_cons, List.foldl_nil, List.setIfInBounds_toArray, List.set_cons_succ, List.set_cons_zero]
                go_wp2
                exact ⟨⟨j + 1, by go_num, by omega, by rw [HPS.out]; exact HF⟩, by simp [RowKit.intOf]; omega⟩
            · have l2i : ¬ (j : Int) < (us.length : Int) := by omega
              have ej : j = us.length := by omega
              have HF : Hid (wr.ownsRow w.heap.size 5 1 u3 (escL (zs.take (k + 1))).length ((escL (zs.take (k + 1))).map fun z => Value.int .u8 z) ∧ wr.ownsRow b1' 21 1 (.slice (some ⟨g, 0, none⟩) zs.length cz) zs.length (zs.map fun z => Value.int .i32 z) ∧ Below w.heap.size w wr) := by
                obtain ⟨y1, y2, y3, y4⟩ := HJ.out
                rw [ej, List.take_length] at y1
                exact ⟨by rw [HST.out]; exact y1, y2, y4⟩
              clear HJ ej
              go_wp2
              exact ⟨⟨k + 1, by go_num, by omega, HF⟩, by simp [RowKit.intOf]; omega⟩
    · have l1i : ¬ (k : Int) < (zs.length : Int) := by omega
      have ek : k = zs.length := by omega
      obtain ⟨o1, _, bl⟩ := HI.out
      rw [ek, List.take_length] at o1
      have hr := string_own 45 5 9 o1 Tryd.underlying45 Tryd.underlying5 Tryd.underlying9
      obtain ⟨S, hS⟩ : ∃ S, strOfNums (escL zs) = S := ⟨_, rfl⟩
      rw [hS] at hr
      have HS : Hid (strOfNums (escL (nums s)) = S) := by unfold Hid; rw [HZ.out]; exact hS
      have HRR : Hid ((convert 45 9 u3).run Tryd.prog wr = .ok (.string S) wr) := hr
      clear hr hS o1 HI ek
      go_wp2_with (refine wpList_str rfl _ rfl u3 S rfl HRR.out ?_)
      go_ret
      exact ⟨by rw [HS.out]; rfl, bl⟩
end Go.Proofs.YtabofadjnbpjkacDoor
