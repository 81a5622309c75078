/-
  The contract of Escape. Conditions: the text takes no more bytes than there are; the library's two tables hold what their text lays.
-/
import Derived.Test.YtabofadjnbpjkacDoorVe
import Derived.Test.YtabofadjnbpjkacDoorWb
namespace Go.Proofs.YtabofadjnbpjkacDoor
open Go.RowKit Go.Lib Go.Shelf
attribute [local go_sem] Oper.semAt_some
/-- Bytes of numbers. -/
def bysN (zs : List Int) : List UInt8 := zs.map fun z => UInt8.ofNat z.toNat
theorem bysN_cells (zs : List Int) (h : ∀ z ∈ zs, 0 ≤ z ∧ z < 256) : byteCells (bysN zs) = zs.map fun z => Value.int .u8 z := by
  unfold byteCells bysN
  rw [List.map_map]
  refine List.map_congr_left fun z hz => ?_
  have := h z hz
  simp
  omega
theorem str_bysN (zs : List Int) : (⟨(bysN zs).toArray⟩ : ByteArray) = strOfNums zs := by
  rfl
theorem strCells_nums (zs : List Int) (h : ∀ z ∈ zs, 0 ≤ z ∧ z < 256) : strCells (strOfNums zs) = zs.map fun z => Value.int .u8 z := by
  rw [← str_bysN, ← bysN_cells zs h]
  rfl
/-- What a round of Escape keeps. -/
def Ok (n₀ b : Nat) (W W' : World) : Prop := Below n₀ W W' ∧ OthersKept 5 (some b) W W'
theorem Ok.trans {n₀ b : Nat} {X Y Z : World} (h : Ok n₀ b X Y) (k : Ok n₀ b Y Z) : Ok n₀ b X Z := ⟨h.1.trans k.1, h.2.trans k.2⟩
theorem Ok.below {n₀ b : Nat} {W W' : World} (hn : n₀ ≤ W.heap.size) (h : Below W.heap.size W W') : Ok n₀ b W W' := ⟨h.mono hn, fun k _ hk _ _ => (h.block k (Array.getElem?_eq_some_iff.1 hk).1).trans hk⟩
theorem owns_ok {n₀ b base e size n : Nat} {W W' : World} {v : Value} {xs : List Value} {cb : Array Value} {tb : TypeId} (h : W.ownsRow base e size v n xs) (hk : Ok n₀ b W W') (hb : W.heap[b]? = some (.cells cb tb (0, 0))) (he : e ≠ 5) (het : e ≠ tb) : W'.ownsRow base e size v n xs := by
  obtain ⟨h1, h2 | ⟨g, cap, cur, rfl, h3, h4, h5⟩⟩ := h
  · exact ⟨h1, .inl h2⟩
  · exact ⟨h1, .inr ⟨g, cap, cur, rfl, h3, hk.2 g _ h4 (fun q => by cases q; rw [hb] at h4; injection h4 with h4; injection h4 with _ h4 _; exact het h4.symm) (fun c fz q => by injection q with _ q _; exact he q), h5⟩⟩
theorem builder_at {B b : Nat} {bs : List Value} {W : World} (h : IsBuilder 47 5 B b bs W) : ∃ cb, W.heap[b]? = some (.cells cb 47 (0, 0)) := by
  rcases h with ⟨_, v, h, _⟩ | ⟨_, v, h, _⟩
  · exact ⟨_, h⟩
  · exact ⟨_, h⟩
theorem Ok.kp {n₀ b Bn : Nat} {W W' : World} {cs cb : Array Value} (h : Ok n₀ b W W') (hb : W.heap[b]? = some (.cells cb 47 (0, 0))) (hn : W.heap[Bn]? = some (.cells cs 9 (0, 0))) (hne : Bn ≠ b) : Kp3 n₀ Bn W W' :=
  ⟨h.1, (h.2 Bn _ hn (by simpa using hne) (fun c fz e => by simp at e)).trans hn.symm, fun k c f hk => (h.2 k _ hk (fun q => by cases q; rw [hb] at hk; simp at hk) (fun c fz e => by simp at e)).trans hk.symm⟩
theorem builder_below {B b : Nat} {bs : List Value} {W W' : World} (h : IsBuilder 47 5 B b bs W) (hb : Below W.heap.size W W') : IsBuilder 47 5 B b bs W' :=
  builder_own (β := Unit) B b (fun _ => bs) () W W' none h (grown_of_below hb) (fun b e => by cases e)
/-- What was written behind these places. -/
def escP (s : ByteArray) (pre : List Nat) : List Int := escL (pre.map fun k => (pRu s k : Int))
theorem escP_snoc (s : ByteArray) (pre : List Nat) (k : Nat) : escP s (pre ++ [k]) = escP s pre ++ esc1 (pRu s k : Int) := by
  unfold escP escL
  rw [List.map_append, List.flatMap_append]
  simp
theorem escP_len (s : ByteArray) (pre : List Nat) : (escP s pre).length ≤ 12 * pre.length := by
  have := esc_len (pre.map fun k => (pRu s k : Int))
  rw [List.length_map] at this
  exact this
set_option maxRecDepth 100000 in
set_option maxHeartbeats 8000000 in
theorem esc_any (s : ByteArray) (w : World) (hs : s.size ≤ 1048576) (hT : Utf8Tabs 0 1 w) (hg : 2 ≤ w.heap.size) :
    Calls Tryd.prog 6 #[.string s] w fun e W' => e = .returned (.string (strOfNums (escL (nums s)))) ∧ Below w.heap.size w W' := by
  refine (callsIn_wide (n := 9)).1 ?_
  have hlen : (poss s).length ≤ s.size := posAt_len s s.size 0 (by omega)
  have HR : Hid (∀ z ∈ escL (nums s), 0 ≤ z ∧ z < 256) := esc_range _ (nums_valid s)
  refine callsIn_of_wp_marks Tryd.func6 rfl trivial ?_ rfl
  simp only [Tryd.ntmps6, List.size_toArray, List.length_cons, List.length_nil, Nat.reduceAdd, Nat.reduceSub, Array.replicate_succ, Array.replicate_zero, List.push_toArray, List.append_toArray, List.nil_append, List.cons_append]
  gi_wp2_with fail
  refine ⟨trivial, ?_⟩
  refine (each_in _ s _).mono ?_
  rintro e w' ⟨rfl, rfl⟩
  gi_wp2_with fail
  have bO : IsBuilder 47 5 w.heap.size w.heap.size [] (w.alloc (.cells #[.pointer none, .slice none 0 0] 47)) := .inl ⟨Nat.le_refl _, _, World.alloc_heap_new _ _, World.ownsRow_nil _ _ _ _, by simp [Value.ownBlock]⟩
  have bN := Boxed.new (w.alloc (.cells #[.pointer none, .slice none 0 0] 47)) 9 (.string s)
  rw [World.size_alloc] at bN
  have hB0 : Below w.heap.size w ((w.alloc (.cells #[.pointer none, .slice none 0 0] 47)).alloc (.cells #[.string s] 9)) := ((Below.refl _ w).alloc (Nat.le_refl _) _).alloc (by simp) _
  have hT0 := tabs_below hT (by omega) hB0
  have bO2 := builder_alloc bO (.cells #[.string s] 9)
  obtain ⟨W0, hW0⟩ : ∃ W0, (w.alloc (.cells #[.pointer none, .slice none 0 0] 47)).alloc (.cells #[.string s] 9) = W0 := ⟨_, rfl⟩
  have hsz : W0.heap.size = w.heap.size + 2 := by rw [← hW0]; simp
  rw [hW0] at bN hB0 hT0 bO2 ⊢
  clear hW0 bO
  refine wpIn_rangeFunc_ownH rfl (by omega) (gf := 36) (lb := #[.pointer (some ⟨w.heap.size + 1, 0, none⟩)]) rfl trivial (enters_of Tryd.func36 (by kernel_rfl) rfl)
    (each_stops3 _ (w.heap.size + 1) w.heap.size s (by omega) W0 bN hg (by omega) hT0) (fun h k => h.trans k) (fun W l o o' hl hW hc _ => Kp3.put (w := W0) (by omega) (by omega) W l o o' hl hW hc) (Below.refl _ _) (fun _ => rfl)
    (fun pre W => IsBuilder 47 5 w.heap.size w.heap.size ((escP s pre).map fun z => Value.int .u8 z) W ∧ Boxed W (w.heap.size + 1) 9 (.string s) ∧ Below w.heap.size w W)
    (fun _ _ _ => False)
    (OwnFrom.and (Own.from (builder_own w.heap.size w.heap.size (fun pre => (escP s pre).map fun z => Value.int .u8 z)) _) (OwnFrom.and (Own.from (boxed_own _ _ _) _) (ownFrom_below (Nat.le_refl _) (by omega))))
    (fun _ _ _ _ _ hs _ _ => hs)
    ⟨bO2, bN, hB0⟩
    (fun k a' W => ∃ Bx, w.heap.size + 2 ≤ Bx ∧ W.heap[Bx]? = some (.cells (pcs s k) 52 (0, 0)) ∧ a' = { tmps := #[.string s, undef, .string ⟨#[]⟩, .pointer (some ⟨w.heap.size, 0, none⟩), .pointer (some ⟨Bx, 0, none⟩), undef, undef, .string s, .func (.func 36) #[] #[.pointer (some ⟨w.heap.size + 1, 0, none⟩)], .agg (pcs s k), undef, undef, undef, undef, undef, undef, undef, undef, undef, undef, undef, undef, undef, undef, undef, undef, undef, undef, undef, undef, undef, undef, undef, undef, undef, undef, undef, undef, undef, undef], defers := [] })
    (fun k a' => ?ax) ?assign ?body ?done ?stop
  case ax =>
    rintro u X Y row ⟨Bx, h1, h2, h3⟩ hg' hr
    exact ⟨Bx, h1, boxC_own (β := Unit) Bx (pcs s k) 52 () X Y row h2 hg' (fun r e => (hr r e).2), h3⟩
  case assign =>
    rintro l pre k W K ⟨hv, hbn, hB⟩ hK
    have hsW : w.heap.size + 2 ≤ W.heap.size := hbn.lt
    have HK : Hid _ := hK _ _ ((KeepsOthers.alloc W (.cells (pcs s k) 52)).from _) (Kp3.alloc (by omega) (by omega) _) ⟨builder_alloc hv _, hbn.alloc _, hB.alloc hB.size _⟩ ⟨W.heap.size, hsW, World.alloc_heap_new _ _, rfl⟩
    clear hK
    unfold pcs at HK ⊢
    gi_wp2
    exact HK
  case body =>
    rintro l pre k a' W hl ⟨r0, hr0⟩ ⟨hv, hbn, hB⟩ ⟨Bx, hBx, bX, rfl⟩ hlt
    have cx : W.cell? ⟨Bx, 2, none⟩ = some (.int .i32 (pRu s k : Int)) := by simp [World.cell?, bX, pcs]
    have hpl : pre.length ≤ s.size := by omega
    have hel := escP_len s pre
    have hsn := escP_snoc s pre k
    have hvr := valid_ru s k
    unfold pcs
    obtain ⟨fs, hfs⟩ : ∃ f : Int, ((pSt s k : Nat) : Int) = f := ⟨_, rfl⟩
    obtain ⟨r, hr⟩ : ∃ r : Int, (pRu s k : Int) = r := ⟨_, rfl⟩
    rw [hr] at cx hsn hvr ⊢
    have hv2 : (0 ≤ r ∧ r < 55296) ∨ (57343 < r ∧ r ≤ 1114111) := by simpa [Lib.validRune] using hvr
    obtain ⟨cb, hcb⟩ := builder_at hv
    have HV : Hid (IsBuilder 47 5 w.heap.size w.heap.size ((escP s pre).map fun z => Value.int .u8 z) W) := hv
    have HBN : Hid (Boxed W (w.heap.size + 1) 9 (.string s)) := hbn
    have HB : Hid (Below w.heap.size w W) := hB
    have hsW := hB.size
    by_cases hp : 32 ≤ r ∧ r ≤ 126 ∧ r ≠ 92
    · have p1 := hp.1
      have p2 := hp.2.1
      have p3 : (r == 92) = false := beq_false_of_ne hp.2.2
      have HSN : Hid (escP s (pre ++ [k]) = escP s pre ++ [r]) := by unfold Hid; rw [hsn]; unfold esc1; rw [if_pos hp]
      clear hsn hv hbn hB hp hv2 hr0 hvr hr
      gi_wp2_with fail
      refine ⟨trivial, ?_⟩
      refine (CallsIn.inRound l (callsIn_wide.2 (wbyte_any w.heap.size w.heap.size _ r W HV.out (by rw [List.length_map]; omega) hsW))).mono ?_
      rintro e W2 ⟨rfl, hv2, hb2, hk2⟩
      have hok : Ok w.heap.size w.heap.size W W2 := ⟨hb2, hk2⟩
      have HF : Hid (KeepsFrom W0.heap.size W W2 ∧ Kp3 w.heap.size (w.heap.size + 1) W W2 ∧ IsBuilder 47 5 w.heap.size w.heap.size ((escP s (pre ++ [k])).map fun z => Value.int .u8 z) W2 ∧ Boxed W2 (w.heap.size + 1) 9 (.string s) ∧ Below w.heap.size w W2) := by
        have hkp := hok.kp hcb HBN.out (by omega)
        refine ⟨kept_from hk2 hb2.size hcb, hkp, by rw [HSN.out, List.map_append]; exact hv2, hkp.2.1.trans HBN.out, HB.out.trans hb2⟩
      clear hv2 hb2 hk2 hok
      gi_wp2
      exact HF.out
    · have HSN : Hid (escP s (pre ++ [k]) = escP s pre ++ (un1 r).flatMap hx4) := by unfold Hid; rw [hsn]; unfold esc1; rw [if_neg hp]
      have hR := un1_range r hvr
      have hul := un1_len r
      have KU := au_any [] (.slice none 0 0) r W.heap.size W (World.ownsRow_nil _ _ _ _) (Nat.le_refl _) hvr (by simp)
      rw [List.nil_append] at KU
      obtain ⟨us, hus⟩ : ∃ us, un1 r = us := ⟨_, rfl⟩
      rw [hus] at KU HSN hR hul
      have HUR : Hid (∀ u ∈ us, 0 ≤ u ∧ u < 65536) := hR
      have KU2 : Hid (Calls Tryd.prog 21 #[.slice none 0 0, .int .i32 r] W fun e w' => ∃ u', e = .returned u' ∧ w'.ownsRow W.heap.size 30 1 u' us.length (us.map fun z => Value.int .u16 z) ∧ Below W.heap.size W w') := KU
      obtain ⟨P0, hP0⟩ : ∃ P0, escP s pre = P0 := ⟨_, rfl⟩
      rw [hP0] at HSN HV hel
      clear hsn hv hbn hB hr0 hvr hr hR hus KU hP0 bX
      by_cases q1 : 32 ≤ r
      · by_cases q2 : r ≤ 126
        · have q3 : r = 92 := by omega
          subst q3
          clear hp hv2
          gi_wp2_with fail
          refine ⟨trivial, ?_⟩
          refine (CallsIn.inRound l (callsIn_wide.2 KU2.out)).mono ?_
          rintro e W1 ⟨vu, rfl, o1, b1⟩
          obtain ⟨au, cu, rfl, hau⟩ := owns_slice o1
          have ok1 : Ok w.heap.size w.heap.size W W1 := Ok.below hsW b1
          obtain ⟨bu, hbu⟩ : ∃ bu, W.heap.size = bu := ⟨_, rfl⟩
          have H1 : Hid (Ok w.heap.size w.heap.size W W1 ∧ IsBuilder 47 5 w.heap.size w.heap.size ((P0 ++ (us.take 0).flatMap hx4).map fun z => Value.int .u8 z) W1 ∧ W1.ownsRow bu 30 1 (.slice au us.length cu) us.length (us.map fun z => Value.int .u16 z)) := by
            rw [List.take_zero, List.flatMap_nil, List.append_nil, ← hbu]
            exact ⟨ok1, builder_below HV.out b1, o1⟩
          clear o1 b1 ok1 KU2
          gi_wp2
          gi_loopw [31] (fun i wr => ∃ j : Nat, i = .int .i64 j ∧ j ≤ us.length ∧ Hid (Ok w.heap.size w.heap.size W wr ∧ IsBuilder 47 5 w.heap.size w.heap.size ((P0 ++ (us.take j).flatMap hx4).map fun z => Value.int .u8 z) wr ∧ wr.ownsRow bu 30 1 (.slice au us.length cu) us.length (us.map fun z => Value.int .u16 z))) (fun i _ => us.length - (RowKit.intOf i).toNat)
          case atStart => exact ⟨0, rfl, Nat.zero_le _, H1⟩
          case round =>
            clear H1
            obtain ⟨j, rfl, hj, HJ⟩ := hrel
            by_cases l2 : j < us.length
            · have l2i : (j : Int) < (us.length : Int) := by omega
              obtain ⟨gu, rfl⟩ := hau (by omega)
              obtain ⟨y1, y2, y3⟩ := HJ.out
              have hu0 : us[j]? = some (us.getD j 0) := by simp [List.getD, List.getElem?_eq_getElem l2]
              have hcu := owns_cell y3 rfl j (.int .u16 (us.getD j 0)) (by rw [List.getElem?_map, hu0]; rfl)
              have hur := HUR.out _ (List.mem_of_getElem? hu0)
              have hs2 := hx_step us j l2
              have hl6 := hx_len (us.take j)
              rw [List.length_take] at hl6
              obtain ⟨u, hu⟩ : ∃ u, us.getD j 0 = u := ⟨_, rfl⟩
              rw [hu] at hcu hur hs2
              have hwz : w.heap.size ≤ wr.heap.size := Nat.le_trans hsW y1.1.size
              have KE := escU_any u wr hur.1 hur.2
              have hsc := strCells_nums (hx4 u) (hx4_range u hur.1 hur.2)
              have hss : (strOfNums (hx4 u)).size = 6 := by
                have := congrArg List.length hsc
                rw [strCells_length, List.length_map] at this
                exact this
              obtain ⟨S, hS⟩ : ∃ S, strOfNums (hx4 u) = S := ⟨_, rfl⟩
              rw [hS] at KE hsc hss
              have KE2 : Hid (Calls Tryd.prog 23 #[.int .u16 u] wr fun e w' => e = .returned (.string S) ∧ Below wr.heap.size wr w') := KE
              clear HJ hu hu0 KE hS
              gi_wp2_with fail
              refine ⟨trivial, ?_⟩
              refine (CallsIn.inRound l (callsIn_wide.2 KE2.out)).mono ?_
              rintro e W3 ⟨rfl, b3⟩
              have ok3 : Ok w.heap.size w.heap.size wr W3 := Ok.below hwz b3
              have hB3 := builder_below y2 b3
              have hwz3 : w.heap.size ≤ W3.heap.size := Nat.le_trans hwz b3.size
              have KW : Hid (Calls Tryd.prog 22 #[.pointer (some ⟨w.heap.size, 0, none⟩), .string S] W3 fun e w' => e = .returned (.tuple #[.int .i64 S.size, .nilIface]) ∧ IsBuilder 47 5 w.heap.size w.heap.size (((P0 ++ (us.take j).flatMap hx4).map fun z => Value.int .u8 z) ++ strCells S) w' ∧ Below w.heap.size W3 w' ∧ OthersKept 5 (some w.heap.size) W3 w') :=
                wstr_any w.heap.size w.heap.size _ S W3 hB3 (by rw [List.length_map, List.length_append, hl6, hss]; omega) hwz3
              obtain ⟨cb3, hcb3⟩ := builder_at hB3
              have Y1 : Hid (Ok w.heap.size w.heap.size W W3) := y1.trans ok3
              have Y3 : Hid (W3.ownsRow bu 30 1 (.slice (some ⟨gu, 0, none⟩) us.length cu) us.length (us.map fun z => Value.int .u16 z)) := owns_below y3 b3
              clear b3 ok3 hB3 y1 y2 y3 KE2
              gi_wp2_with fail
              refine ⟨trivial, ?_⟩
              refine (CallsIn.inRound l (callsIn_wide.2 KW.out)).mono ?_
              rintro e W4 ⟨rfl, hv4, b4, k4⟩
              have ok4 : Ok w.heap.size w.heap.size W3 W4 := ⟨b4, k4⟩
              have HF : Hid (Ok w.heap.size w.heap.size W W4 ∧ IsBuilder 47 5 w.heap.size w.heap.size ((P0 ++ (us.take (j + 1)).flatMap hx4).map fun z => Value.int .u8 z) W4 ∧ W4.ownsRow bu 30 1 (.slice (some ⟨gu, 0, none⟩) us.length cu) us.length (us.map fun z => Value.int .u16 z)) :=
                ⟨Y1.out.trans ok4, by rw [hs2, ← List.append_assoc, List.map_append, ← hsc]; exact hv4, owns_ok Y3.out ok4 hcb3 (by decide) (by decide)⟩
              clear hv4 b4 k4 ok4 KW Y1 Y3
              gi_wp2
              exact ⟨⟨j + 1, by go_num, by omega, HF⟩, by simp [RowKit.intOf]; omega⟩
            · have l2i : ¬ (j : Int) < (us.length : Int) := by omega
              have ej : j = us.length := by omega
              obtain ⟨y1, y2, _⟩ := HJ.out
              rw [ej, List.take_length] at y2
              have HF : Hid (KeepsFrom (w.heap.size + 2) W wr ∧ Kp3 w.heap.size (w.heap.size + 1) W wr ∧ IsBuilder 47 5 w.heap.size w.heap.size ((escP s (pre ++ [k])).map fun z => Value.int .u8 z) wr ∧ Boxed wr (w.heap.size + 1) 9 (.string s) ∧ Below w.heap.size w wr) := by
                have hkp := y1.kp hcb HBN.out (by omega)
                exact ⟨kept_from y1.2 y1.1.size hcb, hkp, by rw [HSN.out]; exact y2, hkp.2.1.trans HBN.out, HB.out.trans y1.1⟩
              clear HJ ej y1 y2
              gi_wp2
              exact HF.out
        · clear hp hv2
          gi_wp2_with fail
          refine ⟨trivial, ?_⟩
          refine (CallsIn.inRound l (callsIn_wide.2 KU2.out)).mono ?_
          rintro e W1 ⟨vu, rfl, o1, b1⟩
          obtain ⟨au, cu, rfl, hau⟩ := owns_slice o1
          have ok1 : Ok w.heap.size w.heap.size W W1 := Ok.below hsW b1
          obtain ⟨bu, hbu⟩ : ∃ bu, W.heap.size = bu := ⟨_, rfl⟩
          have H1 : Hid (Ok w.heap.size w.heap.size W W1 ∧ IsBuilder 47 5 w.heap.size w.heap.size ((P0 ++ (us.take 0).flatMap hx4).map fun z => Value.int .u8 z) W1 ∧ W1.ownsRow bu 30 1 (.slice au us.length cu) us.length (us.map fun z => Value.int .u16 z)) := by
            rw [List.take_zero, List.flatMap_nil, List.append_nil, ← hbu]
            exact ⟨ok1, builder_below HV.out b1, o1⟩
          clear o1 b1 ok1 KU2
          gi_wp2
          gi_loopw [31] (fun i wr => ∃ j : Nat, i = .int .i64 j ∧ j ≤ us.length ∧ Hid (Ok w.heap.size w.heap.size W wr ∧ IsBuilder 47 5 w.heap.size w.heap.size ((P0 ++ (us.take j).flatMap hx4).map fun z => Value.int .u8 z) wr ∧ wr.ownsRow bu 30 1 (.slice au us.length cu) us.length (us.map fun z => Value.int .u16 z))) (fun i _ => us.length - (RowKit.intOf i).toNat)
          case atStart => exact ⟨0, rfl, Nat.zero_le _, H1⟩
          case round =>
            clear H1
            obtain ⟨j, rfl, hj, HJ⟩ := hrel
            by_cases l2 : j < us.length
            · have l2i : (j : Int) < (us.length : Int) := by omega
              obtain ⟨gu, rfl⟩ := hau (by omega)
              obtain ⟨y1, y2, y3⟩ := HJ.out
              have hu0 : us[j]? = some (us.getD j 0) := by simp [List.getD, List.getElem?_eq_getElem l2]
              have hcu := owns_cell y3 rfl j (.int .u16 (us.getD j 0)) (by rw [List.getElem?_map, hu0]; rfl)
              have hur := HUR.out _ (List.mem_of_getElem? hu0)
              have hs2 := hx_step us j l2
              have hl6 := hx_len (us.take j)
              rw [List.length_take] at hl6
              obtain ⟨u, hu⟩ : ∃ u, us.getD j 0 = u := ⟨_, rfl⟩
              rw [hu] at hcu hur hs2
              have hwz : w.heap.size ≤ wr.heap.size := Nat.le_trans hsW y1.1.size
              have KE := escU_any u wr hur.1 hur.2
              have hsc := strCells_nums (hx4 u) (hx4_range u hur.1 hur.2)
              have hss : (strOfNums (hx4 u)).size = 6 := by
                have := congrArg List.length hsc
                rw [strCells_length, List.length_map] at this
                exact this
              obtain ⟨S, hS⟩ : ∃ S, strOfNums (hx4 u) = S := ⟨_, rfl⟩
              rw [hS] at KE hsc hss
              have KE2 : Hid (Calls Tryd.prog 23 #[.int .u16 u] wr fun e w' => e = .returned (.string S) ∧ Below wr.heap.size wr w') := KE
              clear HJ hu hu0 KE hS
              gi_wp2_with fail
              refine ⟨trivial, ?_⟩
              refine (CallsIn.inRound l (callsIn_wide.2 KE2.out)).mono ?_
              rintro e W3 ⟨rfl, b3⟩
              have ok3 : Ok w.heap.size w.heap.size wr W3 := Ok.below hwz b3
              have hB3 := builder_below y2 b3
              have hwz3 : w.heap.size ≤ W3.heap.size := Nat.le_trans hwz b3.size
              have KW : Hid (Calls Tryd.prog 22 #[.pointer (some ⟨w.heap.size, 0, none⟩), .string S] W3 fun e w' => e = .returned (.tuple #[.int .i64 S.size, .nilIface]) ∧ IsBuilder 47 5 w.heap.size w.heap.size (((P0 ++ (us.take j).flatMap hx4).map fun z => Value.int .u8 z) ++ strCells S) w' ∧ Below w.heap.size W3 w' ∧ OthersKept 5 (some w.heap.size) W3 w') :=
                wstr_any w.heap.size w.heap.size _ S W3 hB3 (by rw [List.length_map, List.length_append, hl6, hss]; omega) hwz3
              obtain ⟨cb3, hcb3⟩ := builder_at hB3
              have Y1 : Hid (Ok w.heap.size w.heap.size W W3) := y1.trans ok3
              have Y3 : Hid (W3.ownsRow bu 30 1 (.slice (some ⟨gu, 0, none⟩) us.length cu) us.length (us.map fun z => Value.int .u16 z)) := owns_below y3 b3
              clear b3 ok3 hB3 y1 y2 y3 KE2
              gi_wp2_with fail
              refine ⟨trivial, ?_⟩
              refine (CallsIn.inRound l (callsIn_wide.2 KW.out)).mono ?_
              rintro e W4 ⟨rfl, hv4, b4, k4⟩
              have ok4 : Ok w.heap.size w.heap.size W3 W4 := ⟨b4, k4⟩
              have HF : Hid (Ok w.heap.size w.heap.size W W4 ∧ IsBuilder 47 5 w.heap.size w.heap.size ((P0 ++ (us.take (j + 1)).flatMap hx4).map fun z => Value.int .u8 z) W4 ∧ W4.ownsRow bu 30 1 (.slice (some ⟨gu, 0, none⟩) us.length cu) us.length (us.map fun z => Value.int .u16 z)) :=
                ⟨Y1.out.trans ok4, by rw [hs2, ← List.append_assoc, List.map_append, ← hsc]; exact hv4, owns_ok Y3.out ok4 hcb3 (by decide) (by decide)⟩
              clear hv4 b4 k4 ok4 KW Y1 Y3
              gi_wp2
              exact ⟨⟨j + 1, by go_num, by omega, HF⟩, by simp [RowKit.intOf]; omega⟩
            · have l2i : ¬ (j : Int) < (us.length : Int) := by omega
              have ej : j = us.length := by omega
              obtain ⟨y1, y2, _⟩ := HJ.out
              rw [ej, List.take_length] at y2
              have HF : Hid (KeepsFrom (w.heap.size + 2) W wr ∧ Kp3 w.heap.size (w.heap.size + 1) W wr ∧ IsBuilder 47 5 w.heap.size w.heap.size ((escP s (pre ++ [k])).map fun z => Value.int .u8 z) wr ∧ Boxed wr (w.heap.size + 1) 9 (.string s) ∧ Below w.heap.size w wr) := by
                have hkp := y1.kp hcb HBN.out (by omega)
                exact ⟨kept_from y1.2 y1.1.size hcb, hkp, by rw [HSN.out]; exact y2, hkp.2.1.trans HBN.out, HB.out.trans y1.1⟩
              clear HJ ej y1 y2
              gi_wp2
              exact HF.out
      · clear hp hv2
        gi_wp2_with fail
        refine ⟨trivial, ?_⟩
        refine (CallsIn.inRound l (callsIn_wide.2 KU2.out)).mono ?_
        rintro e W1 ⟨vu, rfl, o1, b1⟩
        obtain ⟨au, cu, rfl, hau⟩ := owns_slice o1
        have ok1 : Ok w.heap.size w.heap.size W W1 := Ok.below hsW b1
        obtain ⟨bu, hbu⟩ : ∃ bu, W.heap.size = bu := ⟨_, rfl⟩
        have H1 : Hid (Ok w.heap.size w.heap.size W W1 ∧ IsBuilder 47 5 w.heap.size w.heap.size ((P0 ++ (us.take 0).flatMap hx4).map fun z => Value.int .u8 z) W1 ∧ W1.ownsRow bu 30 1 (.slice au us.length cu) us.length (us.map fun z => Value.int .u16 z)) := by
          rw [List.take_zero, List.flatMap_nil, List.append_nil, ← hbu]
          exact ⟨ok1, builder_below HV.out b1, o1⟩
        clear o1 b1 ok1 KU2
        gi_wp2
        gi_loopw [31] (fun i wr => ∃ j : Nat, i = .int .i64 j ∧ j ≤ us.length ∧ Hid (Ok w.heap.size w.heap.size W wr ∧ IsBuilder 47 5 w.heap.size w.heap.size ((P0 ++ (us.take j).flatMap hx4).map fun z => Value.int .u8 z) wr ∧ wr.ownsRow bu 30 1 (.slice au us.length cu) us.length (us.map fun z => Value.int .u16 z))) (fun i _ => us.length - (RowKit.intOf i).toNat)
        case atStart => exact ⟨0, rfl, Nat.zero_le _, H1⟩
        case round =>
          clear H1
          obtain ⟨j, rfl, hj, HJ⟩ := hrel
          by_cases l2 : j < us.length
          · have l2i : (j : Int) < (us.length : Int) := by omega
            obtain ⟨gu, rfl⟩ := hau (by omega)
            obtain ⟨y1, y2, y3⟩ := HJ.out
            have hu0 : us[j]? = some (us.getD j 0) := by simp [List.getD, List.getElem?_eq_getElem l2]
            have hcu := owns_cell y3 rfl j (.int .u16 (us.getD j 0)) (by rw [List.getElem?_map, hu0]; rfl)
            have hur := HUR.out _ (List.mem_of_getElem? hu0)
            have hs2 := hx_step us j l2
            have hl6 := hx_len (us.take j)
            rw [List.length_take] at hl6
            obtain ⟨u, hu⟩ : ∃ u, us.getD j 0 = u := ⟨_, rfl⟩
            rw [hu] at hcu hur hs2
            have hwz : w.heap.size ≤ wr.heap.size := Nat.le_trans hsW y1.1.size
            have KE := escU_any u wr hur.1 hur.2
            have hsc := strCells_nums (hx4 u) (hx4_range u hur.1 hur.2)
            have hss : (strOfNums (hx4 u)).size = 6 := by
              have := congrArg List.length hsc
              rw [strCells_length, List.length_map] at this
              exact this
            obtain ⟨S, hS⟩ : ∃ S, strOfNums (hx4 u) = S := ⟨_, rfl⟩
            rw [hS] at KE hsc hss
            have KE2 : Hid (Calls Tryd.prog 23 #[.int .u16 u] wr fun e w' => e = .returned (.string S) ∧ Below wr.heap.size wr w') := KE
            clear HJ hu hu0 KE hS
            gi_wp2_with fail
            refine ⟨trivial, ?_⟩
            refine (CallsIn.inRound l (callsIn_wide.2 KE2.out)).mono ?_
            rintro e W3 ⟨rfl, b3⟩
            have ok3 : Ok w.heap.size w.heap.size wr W3 := Ok.below hwz b3
            have hB3 := builder_below y2 b3
            have hwz3 : w.heap.size ≤ W3.heap.size := Nat.le_trans hwz b3.size
            have KW : Hid (Calls Tryd.prog 22 #[.pointer (some ⟨w.heap.size, 0, none⟩), .string S] W3 fun e w' => e = .returned (.tuple #[.int .i64 S.size, .nilIface]) ∧ IsBuilder 47 5 w.heap.size w.heap.size (((P0 ++ (us.take j).flatMap hx4).map fun z => Value.int .u8 z) ++ strCells S) w' ∧ Below w.heap.size W3 w' ∧ OthersKept 5 (some w.heap.size) W3 w') :=
              wstr_any w.heap.size w.heap.size _ S W3 hB3 (by rw [List.length_map, List.length_append, hl6, hss]; omega) hwz3
            obtain ⟨cb3, hcb3⟩ := builder_at hB3
            have Y1 : Hid (Ok w.heap.size w.heap.size W W3) := y1.trans ok3
            have Y3 : Hid (W3.ownsRow bu 30 1 (.slice (some ⟨gu, 0, none⟩) us.length cu) us.length (us.map fun z => Value.int .u16 z)) := owns_below y3 b3
            clear b3 ok3 hB3 y1 y2 y3 KE2
            gi_wp2_with fail
            refine ⟨trivial, ?_⟩
            refine (CallsIn.inRound l (callsIn_wide.2 KW.out)).mono ?_
            rintro e W4 ⟨rfl, hv4, b4, k4⟩
            have ok4 : Ok w.heap.size w.heap.size W3 W4 := ⟨b4, k4⟩
            have HF : Hid (Ok w.heap.size w.heap.size W W4 ∧ IsBuilder 47 5 w.heap.size w.heap.size ((P0 ++ (us.take (j + 1)).flatMap hx4).map fun z => Value.int .u8 z) W4 ∧ W4.ownsRow bu 30 1 (.slice (some ⟨gu, 0, none⟩) us.length cu) us.length (us.map fun z => Value.int .u16 z)) :=
              ⟨Y1.out.trans ok4, by rw [hs2, ← List.append_assoc, List.map_append, ← hsc]; exact hv4, owns_ok Y3.out ok4 hcb3 (by decide) (by decide)⟩
            clear hv4 b4 k4 ok4 KW Y1 Y3
            gi_wp2
            exact ⟨⟨j + 1, by go_num, by omega, HF⟩, by simp [RowKit.intOf]; omega⟩
          · have l2i : ¬ (j : Int) < (us.length : Int) := by omega
            have ej : j = us.length := by omega
            obtain ⟨y1, y2, _⟩ := HJ.out
            rw [ej, List.take_length] at y2
            have HF : Hid (KeepsFrom (w.heap.size + 2) W wr ∧ Kp3 w.heap.size (w.heap.size + 1) W wr ∧ IsBuilder 47 5 w.heap.size w.heap.size ((escP s (pre ++ [k])).map fun z => Value.int .u8 z) wr ∧ Boxed wr (w.heap.size + 1) 9 (.string s) ∧ Below w.heap.size w wr) := by
              have hkp := y1.kp hcb HBN.out (by omega)
              exact ⟨kept_from y1.2 y1.1.size hcb, hkp, by rw [HSN.out]; exact y2, hkp.2.1.trans HBN.out, HB.out.trans y1.1⟩
            clear HJ ej y1 y2
            gi_wp2
            exact HF.out
  case done =>
    rintro D ys W hD rfl ⟨hv, hbn, hB⟩ hK
    have hz : (escP s (poss s)).map (fun z => Value.int .u8 z) = byteCells (bysN (escL (nums s))) := (bysN_cells _ HR.out).symm
    rw [hz] at hv
    gi_wp2_with fail
    refine ⟨trivial, ?_⟩
    refine (callsIn_wide.2 (Tryd.Builder_String_any_k w.heap.size w.heap.size _ W (IsBuilderF.of hv) hB.size)).mono ?_
    rintro e W2 ⟨rfl, _, hb2, hk2⟩
    rw [str_bysN]
    have hK2 : W2.heap[D]? = some (.deferred (some [])) := hk2 D _ hK (by simp; omega) (fun c fz e => by cases e)
    have hB2 := hB.trans hb2
    clear hv hbn hB hk2 hb2 hK
    obtain ⟨S, hS⟩ : ∃ S, strOfNums (escL (nums s)) = S := ⟨_, rfl⟩
    rw [hS]
    have HS : Hid (strOfNums (escL (nums s)) = S) := hS
    clear hS
    gi_wp2
    refine ⟨by simp, .inl ⟨_, _, rfl, run_takeDeferred hK2, ?_⟩⟩
    exact ⟨_, results_tmp rfl _ _ _, by rw [HS.out]; rfl, hB2.trans (belowK_b (w := w) (Nat.le_refl _) W2 D _ _ (by omega) hK2 rfl rfl)⟩
  case stop =>
    rintro D c pre W _ _ h _
    exact h.elim
end Go.Proofs.YtabofadjnbpjkacDoor
