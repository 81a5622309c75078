/-
  Any parameters: the document's EncodeBy, its loops.
-/
import Derived.Test.YtahmeejcgddlhabSg
import Derived.Test.YtahmeejcgddlhabSe
import Derived.Test.YtahmeejcgddlhabCt
import Derived.Deep.DeepMust
namespace Go.Proofs.Ytahmeejcgddlhab
open Go.RowKit
noncomputable def body10 : Code := Try.f10.body.getD .skip
/-- The parameters' box. -/
theorem box_at {p : Bt} {Bx O : Nat} {w wr : World} (hx : w.heap[Bx]? = some (.cells (bv p) 29)) (ho : O = w.heap.size) (hb : Below O w wr) : wr.heap[Bx]? = some (.cells (bv p) 29) :=
  (hb.block Bx (by have := (Array.getElem?_eq_some_iff.1 hx).1; omega)).trans hx
theorem box_next {p : Bt} {Bx : Nat} {w wr : World} (hx : w.heap[Bx]? = some (.cells (bv p) 29)) (hb : Below w.heap.size w wr) : wr.heap[Bx]? = some (.cells (bv p) 29) := box_at hx rfl hb
theorem box_cell {p : Bt} {Bx : Nat} {w : World} (hx : w.heap[Bx]? = some (.cells (bv p) 29)) (j : Nat) (u : Value) (hj : (bv p)[j]? = some u) : w.cell? ⟨Bx, j, none⟩ = some u := by simp [World.cell?, hx, hj]
/-- An append of one byte to a long row. -/
theorem wpList_appL {ops : Array Oper} {rest : List Oper} {o : Oper} {a : Act} {Q : Exit → Act → World → Prop} {W : World} (hgd : o.guard = none) (s x : Operand) (t : TypeId)
    (ho : o.op = .call { callee := .builtin .append, args := #[s, x], argTypes := #[t, t] })
    (b : Nat) (e : TypeId) (kd : IntKind) (nb : Nat) (ht : Try.prog.underlying t = some (.slice e)) (hi : (Try.prog.info? e).map (fun i => (i.zero, i.size, i.bytes)) = some (some (.int kd 0), 1, nb)) (hnb : nb ≤ 8)
    (v : Value) (zs : List Int) (z : Int) (hs : a.eval s = v) (hown : Rw kd e b W v zs) (hx : a.eval x = .slice (some ⟨W.heap.size, 0, none⟩) 1 1) (hlen : zs.length < 10000000000000) (hb : b ≤ W.heap.size)
    (h : ∀ v' w', Hid (Rw kd e b w' v' (zs ++ [z])) → Hid (W.grownBy w' v.ownBlock) → Hid (Below b W w') → wpList Try.prog ops Q rest (a.put o.dst v') w') :
    wpList Try.prog ops Q (o :: rest) a (W.alloc (.cells #[.int kd z] e)) := by
  obtain ⟨i0, hi, hz0, hz1, hz2⟩ := info_parts hi
  refine wpList_append_own _ hgd _ _ t ho b e i0 (.int kd 0) 1 nb ht hi hz0 hz1 hz2 rfl (by decide) v zs.length _ hs (hown.alloc _) ⟨W.heap.size, 0, none⟩ 1 1 [.int kd z] hx rfl (cells_new W #[.int kd z] e) (by simp [Value.oneCell']) (by unfold maxLen; omega) (Nat.le_trans (Nat.mul_le_mul (show zs.length + 1 ≤ 10000000000000 by omega) hnb) (by decide)) (by simp; omega) ?_
  intro v' w' h1 h2 _
  refine h v' w' ?_ (grown_alloc h2) (grown_below hb hown h2)
  unfold Hid Rw
  rw [List.map_append, List.length_append]
  exact h1
set_option maxRecDepth 100000 in
set_option maxHeartbeats 16000000 in
theorem renc_main (p : Bt) (hp : Okb p) (zs os : List Int) (F : Option (List Int)) (b Bx O : Nat) (AA : Option Addr) (CC : Nat) (v0 : Value) (acc0 : List Int) (P : Ending → World → Prop) (a : Act) (w w1 : World) (HZ : Hid (zs.length < 1048577)) (HD : Hid (Rds .i32 w (.slice AA zs.length CC) zs)) (HO : Hid (O = w.heap.size)) (HBX : Hid (w.heap[Bx]? = some (.cells (bv p) 29))) (HSC : Hid (∀ j, j < zs.length → okC (zs.getD j 0))) (HB0 : Hid (Below O w w1))
    (HI : Hid (∃ mk, WkI p zs os F b O w1 v0 b 0 0 p.bias p.first 0 p.first 0 acc0 mk))
    (hN : Hid (F = none → ∀ w', Below O w w' → P (.returned (.tuple #[.string ⟨#[]⟩, .int .i64 0, .int .i64 142])) w'))
    (hK : Hid (∀ D a w' v', F = some D → Rw .u8 5 O w' v' D → D.length ≤ 8000000000000 → Below O w w' → At 200 [(2, .pointer (some ⟨Bx, 0, none⟩)), (9, v')] a → Code.wp Try.prog (sq 9 body10) (bodyPost Try.prog Try.f10 P) a w'))
    (ha : At 200 [(1, .slice AA zs.length CC), (2, .pointer (some ⟨Bx, 0, none⟩)), (9, v0), (12, .int .i64 (b : Int)), (13, .int .i64 p.first), (14, .int .i64 0), (15, .int .i64 p.bias), (16, .int .i64 (b : Int))] a) : Code.wp Try.prog (sq 8 body10) (bodyPost Try.prog Try.f10 P) a w1 := by
  obtain ⟨f, rfl, h1, h2, h9, h12, h13, h14, h15, h16, -⟩ := ha.lit
  change Code.wp _ _ _ ⟨#[f 0, f 1, f 2, f 3, f 4, f 5, f 6, f 7, f 8, f 9, f 10, f 11, f 12, f 13, f 14, f 15, f 16, f 17, f 18, f 19, f 20, f 21, f 22, f 23, f 24, f 25, f 26, f 27, f 28, f 29, f 30, f 31, f 32, f 33, f 34, f 35, f 36, f 37, f 38, f 39, f 40, f 41, f 42, f 43, f 44, f 45, f 46, f 47, f 48, f 49, f 50, f 51, f 52, f 53, f 54, f 55, f 56, f 57, f 58, f 59, f 60, f 61, f 62, f 63, f 64, f 65, f 66, f 67, f 68, f 69, f 70, f 71, f 72, f 73, f 74, f 75, f 76, f 77, f 78, f 79, f 80, f 81, f 82, f 83, f 84, f 85, f 86, f 87, f 88, f 89, f 90, f 91, f 92, f 93, f 94, f 95, f 96, f 97, f 98, f 99, f 100, f 101, f 102, f 103, f 104, f 105, f 106, f 107, f 108, f 109, f 110, f 111, f 112, f 113, f 114, f 115, f 116, f 117, f 118, f 119, f 120, f 121, f 122, f 123, f 124, f 125, f 126, f 127, f 128, f 129, f 130, f 131, f 132, f 133, f 134, f 135, f 136, f 137, f 138, f 139, f 140, f 141, f 142, f 143, f 144, f 145, f 146, f 147, f 148, f 149, f 150, f 151, f 152, f 153, f 154, f 155, f 156, f 157, f 158, f 159, f 160, f 161, f 162, f 163, f 164, f 165, f 166, f 167, f 168, f 169, f 170, f 171, f 172, f 173, f 174, f 175, f 176, f 177, f 178, f 179, f 180, f 181, f 182, f 183, f 184, f 185, f 186, f 187, f 188, f 189, f 190, f 191, f 192, f 193, f 194, f 195, f 196, f 197, f 198, f 199], []⟩ _
  simp only at h1 h2 h9 h12 h13 h14 h15 h16
  simp only [h1, h2, h9, h12, h13, h14, h15, h16]
  clear h1 h2 h9 h12 h13 h14 h15 h16
  change Code.wp _ (Code.seq (hd (sq 8 body10)) (sq 9 body10)) _ _ _
  generalize sq 9 body10 = REST at hK ⊢
  conv => arg 2; arg 1; whnf
  have zl9 : (zs.length : Int) ≤ 9007199254740992 := by have := HZ.out; omega
  have b9 : (b : Int) ≤ 9007199254740992 := by obtain ⟨mk, h⟩ := HI.out; have := h.bo; omega
  go_wp2
  go_loopw [9, 13, 14, 15, 16] (fun v5 x9 x10 x11 x12 wr => ∃ (n dl bias h : Int), x9 = .int .i64 n ∧ x10 = .int .i64 dl ∧ x11 = .int .i64 bias ∧ x12 = .int .i64 h ∧ 0 ≤ h ∧ h ≤ (zs.length : Int) ∧ Hid (∃ (hn k : Nat) (np i : Int) (acc : List Int) (mk : Nat → Bool), h = (hn : Int) ∧ WkI p zs os F b O wr v5 hn k dl bias n 0 np i acc mk) ∧ Hid (Below O w wr)) (fun _ _ _ _ x12 _ => zs.length - (RowKit.intOf x12).toNat)
  case atStart =>
    obtain ⟨mk, h⟩ := HI.out
    have := h.bo
    exact ⟨p.first, 0, p.bias, (b : Int), rfl, rfl, rfl, rfl, by omega, by omega, ⟨b, 0, p.first, 0, acc0, mk, rfl, h⟩, HB0⟩
  case round =>
    clear HI HB0
    obtain ⟨wo, hwo⟩ : ∃ wo, wr = wo := ⟨_, rfl⟩
    rw [hwo] at hrel ⊢
    clear hwo
    obtain ⟨n, dl, bias, h, rfl, rfl, rfl, rfl, h0, h1, HW, HB⟩ := hrel
    obtain ⟨V, hV⟩ : ∃ V, u9 = V := ⟨_, rfl⟩
    rw [hV] at HW ⊢
    clear hV
    have nb : 0 ≤ n ∧ n ≤ 1114112 := by obtain ⟨_, _, _, _, _, _, _, hh⟩ := HW.out; exact hh.m0
    have db : 0 ≤ dl ∧ dl ≤ 2147483648 := by obtain ⟨_, _, _, _, _, _, _, hh⟩ := HW.out; exact ⟨hh.dl0, hh.dl1⟩
    obtain ⟨n0, n1⟩ := nb
    obtain ⟨dl0, dl1⟩ := db
    have HH : Hid (0 ≤ h ∧ h ≤ (zs.length : Int)) := ⟨h0, h1⟩
    by_cases c : h < (zs.length : Int)
    · have c2 : decide (h < (zs.length : Int)) = true := decide_eq_true c
      clear h1
      go_wp2
      go_loopw [17, 86] (fun x13 x58 wq => ∃ (mm : Int) (j : Nat), x13 = .int .i64 mm ∧ x58 = .int .i64 (j : Int) ∧ j ≤ zs.length ∧ Hid (n ≤ mm ∧ mm ≤ 1114112 ∧ (∀ jj, jj < j → n ≤ zs.getD jj 0 → mm ≤ zs.getD jj 0) ∧ (mm = 1114112 ∨ ∃ jj, jj < zs.length ∧ zs.getD jj 0 = mm)) ∧ Hid (wq = wo)) (fun _ x58 _ => zs.length - (RowKit.intOf x58).toNat)
      case atStart => exact ⟨1114112, 0, rfl, rfl, Nat.zero_le _, ⟨n1, Int.le_refl _, fun jj hj => by omega, .inl rfl⟩, rfl⟩
      case round =>
        obtain ⟨mm, j, rfl, rfl, hj, HM, hwq⟩ := hrel
        rw [Hid] at hwq
        subst hwq
        obtain ⟨m0, m1, m2, m3⟩ := HM.out
        by_cases d : j < zs.length
        · have d1 : (j : Int) < (zs.length : Int) := by omega
          have d2 : decide ((j : Int) < (zs.length : Int)) = true := decide_eq_true d1
          have hRd := HD.out.below (HO.out ▸ HB.out)
          obtain ⟨a1, cc1, e1, hcell⟩ := hRd
          cases e1
          obtain ⟨gz, off, rfl, hcell2⟩ := hcell (by omega)
          have y1 := hcell2 j d
          obtain ⟨z0, z1, -⟩ := HSC.out j d
          have M3 : Hid (∀ jj, jj < j → n ≤ zs.getD jj 0 → mm ≤ zs.getD jj 0) := m2
          have M4 : Hid (mm = 1114112 ∨ ∃ jj, jj < zs.length ∧ zs.getD jj 0 = mm) := m3
          obtain ⟨Z, hZ⟩ : ∃ Z, zs.getD j 0 = Z := ⟨_, rfl⟩
          rw [hZ] at y1 z0 z1
          replace hZ : Hid (zs.getD j 0 = Z) := hZ
          have zw : IntKind.i64.wrap Z = Z := IntWalk.i64_in _ ⟨by omega, by omega⟩
          have j9 : (j : Int) ≤ 9007199254740992 := by omega
          have HE : ∀ mm2, n ≤ mm2 → mm2 ≤ mm → (n ≤ Z → mm2 ≤ Z) → (mm2 = mm ∨ mm2 = Z) → Hid (n ≤ mm2 ∧ mm2 ≤ 1114112 ∧ (∀ jj, jj < j + 1 → n ≤ zs.getD jj 0 → mm2 ≤ zs.getD jj 0) ∧ (mm2 = 1114112 ∨ ∃ jj, jj < zs.length ∧ zs.getD jj 0 = mm2)) := fun mm2 q1 q2 q3 q4 => ⟨q1, by omega, fun jj hjj hn => by
            by_cases e : jj = j
            · subst e; rw [hZ.out] at hn ⊢; exact q3 hn
            · have := M3.out jj (by omega) hn; omega, by
            rcases q4 with e | e
            · subst e; exact M4.out
            · subst e; right; exact ⟨j, d, hZ.out⟩⟩
          replace HE : Hid (∀ mm2, n ≤ mm2 → mm2 ≤ mm → (n ≤ Z → mm2 ≤ Z) → (mm2 = mm ∨ mm2 = Z) → Hid (n ≤ mm2 ∧ mm2 ≤ 1114112 ∧ (∀ jj, jj < j + 1 → n ≤ zs.getD jj 0 → mm2 ≤ zs.getD jj 0) ∧ (mm2 = 1114112 ∨ ∃ jj, jj < zs.length ∧ zs.getD jj 0 = mm2))) := HE
          have HM1 : Hid (n ≤ mm ∧ mm ≤ 1114112) := ⟨m0, m1⟩
          clear hcell hcell2 m2 m3 M3 M4 HM hZ hj HW
          by_cases t1 : n ≤ Z
          · have t1' : decide (n ≤ Z) = true := decide_eq_true t1
            by_cases t2 : Z < mm
            · have t2' : decide (Z < mm) = true := decide_eq_true t2
              have HE2 := HE.out Z t1 (by omega) (fun _ => Int.le_refl _) (.inr rfl)
              clear HE HM1
              go_wp2
              refine ⟨⟨Z, j + 1, rfl, by simp, by omega, HE2, by first | exact trivial | exact rfl⟩, ?_⟩
              simp [RowKit.intOf]; omega
            · have t2' : decide (Z < mm) = false := decide_eq_false t2
              have HE2 := HE.out mm m0 (Int.le_refl _) (fun _ => by omega) (.inl rfl)
              clear HE HM1
              go_wp2
              refine ⟨⟨mm, j + 1, rfl, by simp, by omega, HE2, by first | exact trivial | exact rfl⟩, ?_⟩
              simp [RowKit.intOf]; omega
          · have t1' : decide (n ≤ Z) = false := decide_eq_false t1
            have HE2 := HE.out mm m0 (Int.le_refl _) (fun q => absurd q t1) (.inl rfl)
            clear HE HM1
            go_wp2
            refine ⟨⟨mm, j + 1, rfl, by simp, by omega, HE2, by first | exact trivial | exact rfl⟩, ?_⟩
            simp [RowKit.intOf]; omega
        · obtain rfl : j = zs.length := by omega
          have d2 : decide ((zs.length : Int) < (zs.length : Int)) = false := by simp
          have HX : Hid (mm ≤ 1114111 ∧ ∃ (hn k : Nat) (np i : Int) (acc : List Int) (mk : Nat → Bool), h = (hn : Int) ∧ k < os.length ∧ WkI p zs os F b O wr V hn k dl bias n 0 np i acc mk ∧ (∀ jj, jj < zs.length → n ≤ zs.getD jj 0 → mm ≤ zs.getD jj 0) ∧ ∃ x ∈ os.drop k, KZ zs x = mm) := by
            obtain ⟨hn, k, np, i, acc, mk, e1, W⟩ := HW.out
            have e2 := W.hk
            have e3 := W.bo
            have hkl : k < os.length := by omega
            obtain ⟨x, hx⟩ := drop_head os k hkl
            obtain ⟨x0, x1, x2⟩ := W.eo.rng x (by rw [hx]; simp)
            have hu : ∀ jj, jj < zs.length → mk jj = false → n ≤ zs.getD jj 0 := fun jj hjj hm => by
              by_cases q : zs.getD jj 0 < n
              · rw [(W.mks jj hjj).2 (.inl q)] at hm; simp at hm
              · omega
            have hm := m2 x.toNat (by omega) (hu x.toNat (by omega) x2)
            have ok := (HSC.out x.toNat (by omega)).2.1
            refine ⟨by omega, hn, k, np, i, acc, mk, e1, hkl, W, m2, ?_⟩
            rcases m3 with q | ⟨jj, q1, q2⟩
            · omega
            · refine ⟨(jj : Int), W.cov jj q1 ?_, by unfold KZ; rw [Int.toNat_natCast]; exact q2⟩
              cases e : mk jj with
              | false => rfl
              | true =>
                have := (W.mks jj q1).1 e
                omega
          have mm1 : mm ≤ 1114111 := HX.out.1
          clear HM m2 m3 HW m1 hj
          obtain ⟨X1, hX1⟩ : ∃ X1, mm - n = X1 := ⟨_, rfl⟩
          obtain ⟨H1, hH1⟩ : ∃ H1, h + 1 = H1 := ⟨_, rfl⟩
          obtain ⟨PR, hPR⟩ : ∃ PR, X1 * H1 = PR := ⟨_, rfl⟩
          obtain ⟨DD, hDD⟩ : ∃ DD, dl + PR = DD := ⟨_, rfl⟩
          have x10 : 0 ≤ X1 ∧ X1 ≤ 1114112 := by omega
          have h10 : 0 ≤ H1 ∧ H1 ≤ 1048577 := by have := HZ.out; omega
          have pr0 : 0 ≤ PR := by rw [← hPR]; exact Int.mul_nonneg x10.1 h10.1
          have pr1 : PR ≤ 1114112 * 1048577 := by rw [← hPR]; exact Int.mul_le_mul x10.2 h10.2 h10.1 (by omega)
          have w1 : wrap64 X1 = X1 := by unfold wrap64; omega
          have w2 : wrap64 H1 = H1 := by unfold wrap64; omega
          have w3 : wrap64 PR = PR := by unfold wrap64; omega
          have w4 : wrap64 DD = DD := by unfold wrap64; omega
          have HDD : Hid (DD = dl + (mm - n) * (h + 1)) := by show _ = _; rw [hX1, hH1, hPR, hDD]
          have d0 : 0 ≤ DD := by omega
          clear x10 h10 pr0 pr1
          by_cases t1 : 2147483647 < DD
          · have t1' : decide (2147483647 < DD) = true := decide_eq_true t1
            have HFN : Hid (F = none) := by
              obtain ⟨-, hn, k, np, i, acc, mk, rfl, hkl, W, hg, -⟩ := HX.out
              exact W.jump_fail hkl mm DD hg (by rw [HDD.out]; simp) t1
            have HP := hN.out HFN.out wr HB.out
            clear HX t1
            go_wp2
            go_ret3
            exact HP
          have t1' : decide (2147483647 < DD) = false := decide_eq_false t1
          have HJ : Hid (∃ (hn k : Nat) (np i : Int) (acc : List Int) (mk : Nat → Bool), h = (hn : Int) ∧ WkI p zs os F b O wr V hn k DD bias mm 0 np i acc mk ∧ ∃ x ∈ os.drop k, KZ zs x = mm) := by
            obtain ⟨-, hn, k, np, i, acc, mk, rfl, hkl, W, hg, hx⟩ := HX.out
            exact ⟨hn, k, np, i, acc, mk, rfl, W.jump mm DD m0 mm1 hg (by rw [HDD.out]; simp) (by omega), hx⟩
          have HMM : Hid (0 ≤ mm ∧ mm ≤ 1114111) := ⟨by omega, mm1⟩
          have d1 : DD ≤ 2147483647 := by omega
          clear HX t1 HDD
          go_wp2
          clear hX1 hH1 hPR hDD w1 w2 w3 w4 n0 n1 dl0 dl1 m0
          have HH0 : Hid (h < (zs.length : Int)) := c
          clear c c2 d d2
          go_loopw [9, 14, 15, 16, 116] (fun v5 x10 x11 x12 x88 wq => ∃ (d2 bias2 h2 : Int) (j : Nat), x10 = .int .i64 d2 ∧ x11 = .int .i64 bias2 ∧ x12 = .int .i64 h2 ∧ x88 = .int .i64 (j : Int) ∧ j ≤ zs.length ∧ 0 ≤ d2 ∧ d2 ≤ 2147483647 ∧ 0 ≤ h2 ∧ h2 ≤ (zs.length : Int) ∧ Hid (∃ (hn k : Nat) (np i : Int) (acc : List Int) (mk : Nat → Bool), h2 = (hn : Int) ∧ WkI p zs os F b O wq v5 hn k d2 bias2 mm j np i acc mk ∧ ((h < h2 ∧ np = mm) ∨ (h = h2 ∧ ∃ x ∈ os.drop k, KZ zs x = mm))) ∧ Hid (Below O w wq)) (fun _ _ _ _ x88 _ => zs.length - (RowKit.intOf x88).toNat)
          case atStart =>
            obtain ⟨hn, k, np, i, acc, mk, e1, W, hx⟩ := HJ.out
            exact ⟨DD, bias, h, 0, rfl, rfl, rfl, rfl, Nat.zero_le _, d0, d1, h0, by have := HH.out; omega, ⟨hn, k, np, i, acc, mk, e1, W, .inr ⟨rfl, hx⟩⟩, HB.out⟩
          case round =>
            clear HJ HB d0 d1 t1' h0
            obtain ⟨wp, hwp⟩ : ∃ wp, wr = wp := ⟨_, rfl⟩
            rw [hwp] at hrel ⊢
            clear hwp
            obtain ⟨d2, bias2, h2, j, rfl, rfl, rfl, rfl, hj, d0, d1, g0, g1, HW, HB⟩ := hrel
            obtain ⟨V, hV⟩ : ∃ V, u9 = V := ⟨_, rfl⟩
            rw [hV] at HW ⊢
            clear hV
            have mm0 : 0 ≤ mm := HMM.out.1
            by_cases d : j < zs.length
            · have d3 : (j : Int) < (zs.length : Int) := by omega
              have d4 : decide ((j : Int) < (zs.length : Int)) = true := decide_eq_true d3
              have hRd := HD.out.below (HO.out ▸ HB.out)
              obtain ⟨a1, cc1, e1, hcell⟩ := hRd
              cases e1
              obtain ⟨gz, off, rfl, hcell2⟩ := hcell (by omega)
              have y1 := hcell2 j d
              obtain ⟨z0, z1, -⟩ := HSC.out j d
              obtain ⟨Z, hZ⟩ : ∃ Z, zs.getD j 0 = Z := ⟨_, rfl⟩
              rw [hZ] at y1 z0 z1
              replace hZ : Hid (zs.getD j 0 = Z) := hZ
              have zw : IntKind.i64.wrap Z = Z := IntWalk.i64_in _ ⟨by omega, by omega⟩
              have j9 : (j : Int) ≤ 9007199254740992 := by omega
              clear hcell hcell2
              by_cases t1 : Z < mm
              · have t1' : decide (Z < mm) = true := decide_eq_true t1
                have t2' : (Z != mm) = true := by simp; omega
                by_cases t3 : 2147483647 < d2 + 1
                · have t3' : decide (2147483647 < d2 + 1) = true := decide_eq_true t3
                  have HFN : Hid (F = none) := by
                    obtain ⟨hn, k, np, i, acc, mk, rfl, W, hx⟩ := HW.out
                    have W2 := W.pass d (by rw [hZ.out]; exact t1) d1
                    have hkl : k < os.length := by
                      rcases hx with ⟨-, q⟩ | ⟨-, x, hx, -⟩
                      · have q1 := W2.dlt
                        have q2 := cnt_le mk (j + 1)
                        have q3 := W.eo.i0
                        rw [q, Int.sub_self, Int.zero_mul] at q1
                        have := HZ.out
                        omega
                      · by_cases r : k < os.length
                        · exact r
                        · rw [List.drop_eq_nil_of_le (by omega)] at hx; simp at hx
                    exact W2.fail (by omega) hkl t3
                  have HP := hN.out HFN.out wp HB.out
                  clear HW t3 t1
                  go_wp2
                  go_ret3
                  exact HP
                · have t3' : decide (2147483647 < d2 + 1) = false := decide_eq_false t3
                  have HE : Hid (∃ (hn k : Nat) (np i : Int) (acc : List Int) (mk : Nat → Bool), h2 = (hn : Int) ∧ WkI p zs os F b O wp V hn k (d2 + 1) bias2 mm (j + 1) np i acc mk ∧ ((h < h2 ∧ np = mm) ∨ (h = h2 ∧ ∃ x ∈ os.drop k, KZ zs x = mm))) := by
                    obtain ⟨hn, k, np, i, acc, mk, e1, W, hx⟩ := HW.out
                    exact ⟨hn, k, np, i, acc, mk, e1, W.pass d (by rw [hZ.out]; exact t1) d1, hx⟩
                  clear HW t1
                  go_wp2
                  refine ⟨⟨d2 + 1, bias2, h2, j + 1, rfl, rfl, rfl, by simp, by omega, by omega, by omega, g0, g1, HE, HB⟩, ?_⟩
                  simp [RowKit.intOf]; omega
              · have t1' : decide (Z < mm) = false := decide_eq_false t1
                by_cases t2 : Z = mm
                · subst t2
                  have t2' : (Z != Z) = false := by simp
                  obtain ⟨hn, k, np, i, acc, mk, e1, W, hx⟩ := HW.out
                  obtain ⟨hkl, hnext⟩ := W.hit hp d hZ.out d1
                  obtain ⟨TGT, hTG⟩ : ∃ TGT, acc ++ numU p bias2 (fU + 1) d2 p.base = TGT := ⟨_, rfl⟩
                  rw [hTG] at hnext
                  obtain ⟨FB, hFB⟩ : ∃ FB, (k == 0) = FB := ⟨_, rfl⟩
                  have hfb2 : (h2 == (b : Int)) = FB := by
                    have := W.hk
                    rw [← hFB, e1]
                    by_cases q : k = 0
                    · subst q
                      rw [show (hn : Int) = (b : Int) by omega]; simp
                    · rw [beq_eq_false_iff_ne.2 (show (hn : Int) ≠ (b : Int) by omega), beq_eq_false_iff_ne.2 q]
                  rw [hFB] at hnext
                  obtain ⟨H1, hH1⟩ : ∃ H1, h2 + 1 = H1 := ⟨_, rfl⟩
                  have hH1n : ((hn + 1 : Nat) : Int) = H1 := by omega
                  rw [hH1n] at hnext
                  have h10 : 1 ≤ H1 ∧ H1 ≤ 1048577 := by have := HZ.out; omega
                  have k25 := fun w => radaptBy_any p d2 H1 FB w hp d0 (by omega) h10.1 (by omega)
                  obtain ⟨A, hA⟩ : ∃ A, adF p d2 H1 FB = A := ⟨_, rfl⟩
                  rw [hA] at hnext k25
                  replace k25 : Hid (∀ w, Calls Try.prog 25 #[.agg (bv p), .int .i64 d2, .int .i64 H1, .bool FB] w fun e w' => e = .returned (.int .i64 A) ∧ Below w.heap.size w w') := k25
                  have HNX : Hid (∀ wr' v', Rw .u8 5 O wr' v' TGT → ∃ (hn k : Nat) (np i : Int) (acc : List Int) (mk : Nat → Bool), H1 = (hn : Int) ∧ WkI p zs os F b O wr' v' hn k 0 A Z (j + 1) np i acc mk ∧ ((h < H1 ∧ np = Z) ∨ (h = H1 ∧ ∃ x ∈ os.drop k, KZ zs x = Z))) := fun wr' v' ho =>
                    ⟨hn + 1, k + 1, _, _, _, _, by omega, hnext wr' v' ho, .inl ⟨by rcases hx with ⟨q, -⟩ | ⟨q, -⟩ <;> omega, rfl⟩⟩
                  have hTl : Hid (TGT.length < 9000000000000) := by
                    have q2 := W.len
                    have q3 := numU_len p bias2 (fU + 1) d2 p.base
                    have q4 := W.bo
                    have q5 := HZ.out
                    have q6 : fU = 10033 := rfl
                    show _ < _
                    rw [← hTG, List.length_append]; omega
                  have bb := W.bb
                  have hpb : 3 ≤ p.base ∧ p.base ≤ 36 := ⟨hp.b1, hp.b2⟩
                  have HS0 : Hid (∃ (f : Nat) (acc2 : List Int), okQ bias2 f d2 p.base ∧ p.base + 36 * (f : Int) ≤ 400000 ∧ acc2 ++ numU p bias2 (f + 1) d2 p.base = TGT ∧ Rw .u8 5 O wp V acc2) := ⟨fU, acc, okQ.start bb (by omega) d1, by have q6 : (fU : Int) = 10033 := rfl; omega, hTG, W.out⟩
                  have w1 : wrap64 H1 = H1 := by unfold wrap64; omega
                  have HH1 : Hid (0 ≤ H1 ∧ H1 ≤ (zs.length : Int)) := by have := W.bo; have := W.hk; show _ ∧ _; omega
                  have a0 := box_cell (box_at HBX.out HO.out HB.out) 0 (.int .i64 p.base) rfl
                  clear W hx hnext hTG HW hFB hH1n h10 hA t1 e1 hZ
                  go_wp2
                  go_quiet (fail)
                  have HBq : Hid (Below O w (wp.drewN nq)) := below_drewN HB.out _
                  have HSq : Hid (∃ (f : Nat) (acc2 : List Int), okQ bias2 f d2 p.base ∧ p.base + 36 * (f : Int) ≤ 400000 ∧ acc2 ++ numU p bias2 (f + 1) d2 p.base = TGT ∧ Rw .u8 5 O (wp.drewN nq) V acc2) := by
                    obtain ⟨f, acc2, q1, q2, q3, q4⟩ := HS0.out
                    exact ⟨f, acc2, q1, q2, q3, q4.below (below_drewN (Below.refl _ _) _)⟩
                  clear y1 zw a0 HS0 HB
                  generalize wp.drewN nq = wq at *
                  go_wp2
                  go_loopw [9, 22, 23] (fun v5 x18 x19 wz => ∃ (q kk : Int), x18 = .int .i64 q ∧ x19 = .int .i64 kk ∧ 0 ≤ q ∧ q ≤ 2147483647 ∧ 0 ≤ kk ∧ kk ≤ 400000 ∧ Hid (∃ (f : Nat) (acc2 : List Int), okQ bias2 f q kk ∧ kk + 36 * (f : Int) ≤ 400000 ∧ acc2 ++ numU p bias2 (f + 1) q kk = TGT ∧ Rw .u8 5 O wz v5 acc2) ∧ Hid (Below O w wz)) (fun _ _ x19 _ => (400001 - RowKit.intOf x19).toNat)
                  case atStart => exact ⟨d2, p.base, rfl, rfl, d0, d1, by omega, by omega, HSq.out, HBq.out⟩
                  case round =>
                    clear HSq HBq
                    obtain ⟨wz, hwz⟩ : ∃ wz, wr = wz := ⟨_, rfl⟩
                    rw [hwz] at hrel ⊢
                    clear hwz
                    obtain ⟨q, kk, rfl, rfl, q0, q1, kk0, kk1, ⟨f, acc2, f1, f2, f3, hR⟩, HB⟩ := hrel
                    obtain ⟨V, hV⟩ : ∃ V, u9 = V := ⟨_, rfl⟩
                    rw [hV] at hR ⊢
                    clear hV
                    have k23 := fun w => rthrBy_any p kk bias2 w hp.l2 kk0 (by omega) bb.1 (by omega)
                    have tb := thr_bound p hp kk bias2
                    rw [numU] at f3
                    obtain ⟨T, hT⟩ : ∃ T, thr p kk bias2 = T := ⟨_, rfl⟩
                    simp only [hT] at k23 tb f3
                    have hR2 : Hid (Rw .u8 5 O wz V acc2) := hR
                    have hal : acc2.length < 10000000000000 := by
                      have q3 := hTl.out
                      rw [← f3, List.length_append] at q3; omega
                    have hOz : Hid (O ≤ wz.heap.size) := by have := HB.out.size; have := HO.out; show _ ≤ _; omega
                    have hbx := box_at HBX.out HO.out HB.out
                    have a0 := box_cell hbx 0 (.int .i64 p.base) rfl
                    have a1 := box_cell hbx 1 (.int .i64 p.least) rfl
                    have a2 := box_cell hbx 2 (.int .i64 p.most) rfl
                    have a3 := box_cell hbx 3 (.int .i64 p.skew) rfl
                    have a4 := box_cell hbx 4 (.int .i64 p.damp) rfl
                    have a5 := box_cell hbx 5 (.int .i64 p.bias) rfl
                    have a6 := box_cell hbx 6 (.int .i64 p.first) rfl
                    have a7 := box_cell hbx 7 (.int .u8 p.btw) rfl
                    clear hbx hR
                    by_cases r1 : q < T
                    · rw [if_pos r1] at f3
                      have r1' : decide (q < T) = true := decide_eq_true r1
                      have k19 := fun w => rletter_any q w q0 (by omega)
                      replace f3 : Hid (acc2 ++ [ltr q] = TGT) := f3
                      generalize ltr q = X at *
                      clear f1 f2 hT r1 tb
                      go_wp2_with (go_at_call 23; refine (calls_hid (k23 _)).mono ?_)
                      intro _ w3 hq
                      obtain ⟨rfl, b3⟩ := hq.out
                      have HB3 : Hid (Below O w w3) := HB.out.trans (b3.mono hOz.out)
                      have hR3 : Hid (Rw .u8 5 O w3 V acc2) := hR2.out.below b3
                      have hO3 : O ≤ w3.heap.size := Nat.le_trans hOz.out b3.size
                      clear hq b3 k23 a0 a1 a2 a3 a4 a5 a6 a7 HB hR2 hOz
                      go_wp2_with (first | (go_at_call 24; refine (k19 _).mono ?_; rintro e w' ⟨rfl, hw⟩; rw [hw]; clear hw) | (at_builtin; go_must (refine wpList_appL rfl _ _ 48 rfl O 5 .u8 1 Try.underlying48 info5 (by decide) V acc2 X rfl hR3.out rfl hal hO3 ?_)))
                      intro v' w4 hR4 _ hB4
                      have HB4 : Hid (Below O w w4) := HB3.out.trans hB4.out
                      have hRT : Hid (Rw .u8 5 O w4 v' TGT) := by rw [← f3.out]; exact hR4.out
                      have hbx := box_at HBX.out HO.out HB4.out
                      have a0 := box_cell hbx 0 (.int .i64 p.base) rfl
                      have a1 := box_cell hbx 1 (.int .i64 p.least) rfl
                      have a2 := box_cell hbx 2 (.int .i64 p.most) rfl
                      have a3 := box_cell hbx 3 (.int .i64 p.skew) rfl
                      have a4 := box_cell hbx 4 (.int .i64 p.damp) rfl
                      have a5 := box_cell hbx 5 (.int .i64 p.bias) rfl
                      have a6 := box_cell hbx 6 (.int .i64 p.first) rfl
                      have a7 := box_cell hbx 7 (.int .u8 p.btw) rfl
                      have k25b := k25.out w4
                      have hO4 : Hid (O ≤ w4.heap.size) := by have := HB4.out.size; have := HO.out; show _ ≤ _; omega
                      have h19 : H1 ≤ 9007199254740992 := by have := HH1.out; omega
                      clear hbx hR4 hB4 HB3 hR3 hO3 hal f3 k19
                      go_wp2_with (go_at_call 25; refine (calls_hid k25b).mono ?_)
                      intro _ w5 hq
                      obtain ⟨rfl, b5⟩ := hq.out
                      have HE := HNX.out w5 v' (hRT.out.below b5)
                      replace HE : Hid (∃ (hn k : Nat) (np i : Int) (acc : List Int) (mk : Nat → Bool), H1 = (hn : Int) ∧ WkI p zs os F b O w5 v' hn k 0 A Z (j + 1) np i acc mk ∧ ((h < H1 ∧ np = Z) ∨ (h = H1 ∧ ∃ x ∈ os.drop k, KZ zs x = Z))) := HE
                      have HB5 : Hid (Below O w w5) := HB4.out.trans (b5.mono hO4.out)
                      clear hq b5 k25b a0 a1 a2 a3 a4 a5 a6 a7 HB4 hRT hO4 HNX
                      go_wp2
                      refine ⟨⟨0, A, H1, j + 1, rfl, rfl, rfl, by simp, by omega, by omega, by omega, HH1.out.1, HH1.out.2, HE, HB5⟩, ?_⟩
                      simp [RowKit.intOf]; omega
                    · rw [if_neg r1] at f3
                      have r1' : decide (q < T) = false := decide_eq_false r1
                      have np := num_step (b := p.base) (t := T) (q := q) tb.1 (by omega) (by omega)
                      obtain ⟨f, rfl, f9⟩ := f1.step hp hT (by omega) tb.1 np.2.2.1 np.2.2.2.2
                      obtain ⟨X, hX⟩ : ∃ X, q - T = X := ⟨_, rfl⟩
                      obtain ⟨R, hRR⟩ : ∃ R, p.base - T = R := ⟨_, rfl⟩
                      rw [hX, hRR] at f3 np f9
                      have x0 : 0 ≤ X := by omega
                      have x1 : X ≤ 2147483647 := by omega
                      have R1 : 2 ≤ R := by omega
                      have R2 : R ≤ 36 := by omega
                      have hR0 : (R == 0) = false := by simp; omega
                      have rw0 : wrap64 R = R := by unfold wrap64; omega
                      have xw0 : wrap64 X = X := by unfold wrap64; omega
                      obtain ⟨n1, n2, n3, n4, n5⟩ := np
                      have k19 := fun w => rletter_any (T + X % R) w (by omega) (by omega)
                      have dw : wrap64 (T + X % R) = T + X % R := by unfold wrap64; omega
                      have hE : Hid (∃ (f : Nat) (acc2' : List Int), okQ bias2 f (X / R) (kk + p.base) ∧ kk + p.base + 36 * (f : Int) ≤ 400000 ∧ acc2' ++ numU p bias2 (f + 1) (X / R) (kk + p.base) = TGT ∧ acc2' = acc2 ++ [ltr (T + X % R)]) := ⟨f, acc2 ++ [ltr (T + X % R)], f9, by omega, by rw [← f3]; simp, rfl⟩
                      have HQ : Hid (0 ≤ X / R ∧ X / R ≤ 2147483647 ∧ 0 ≤ kk + p.base ∧ kk + p.base ≤ 400000 ∧ kk < kk + p.base) := ⟨n3, by omega, by omega, by omega, by omega⟩
                      have hlt : ltr (T + X % R) = ltr (T + X % R) := rfl
                      have kk9 : kk ≤ 9007199254740992 := by omega
                      have kw : wrap64 (kk + p.base) = kk + p.base := by unfold wrap64; omega
                      clear f1 f9 f2 f3 hT r1 tb n4 n5 HNX k25
                      obtain ⟨L, hL⟩ : ∃ L, ltr (T + X % R) = L := ⟨_, rfl⟩
                      rw [hL] at hE
                      simp only [hL] at k19
                      clear hlt hL
                      go_wp2_with (go_at_call 23; refine (calls_hid (k23 _)).mono ?_)
                      intro _ w3 hq
                      obtain ⟨rfl, b3⟩ := hq.out
                      have HB3 : Hid (Below O w w3) := HB.out.trans (b3.mono hOz.out)
                      have hR3 : Hid (Rw .u8 5 O w3 V acc2) := hR2.out.below b3
                      have hO3 : O ≤ w3.heap.size := Nat.le_trans hOz.out b3.size
                      have a30 := box_cell (box_at HBX.out HO.out HB3.out) 0 (.int .i64 p.base) rfl
                      clear hq b3 k23 a0 a1 a2 a3 a4 a5 a6 a7 HB hR2 hOz
                      go_wp2_with (first | (go_at_call 24; refine (k19 _).mono ?_; rintro e w' ⟨rfl, hw⟩; rw [hw]; clear hw) | (at_builtin; go_must (refine wpList_appL rfl _ _ 48 rfl O 5 .u8 1 Try.underlying48 info5 (by decide) V acc2 L rfl hR3.out rfl hal hO3 ?_)))
                      intro v' w4 hR4 _ hB4
                      have HB4 : Hid (Below O w w4) := HB3.out.trans hB4.out
                      have HE : Hid (∃ (f : Nat) (acc2 : List Int), okQ bias2 f (X / R) (kk + p.base) ∧ kk + p.base + 36 * (f : Int) ≤ 400000 ∧ acc2 ++ numU p bias2 (f + 1) (X / R) (kk + p.base) = TGT ∧ Rw .u8 5 O w4 v' acc2) := by
                        obtain ⟨f, acc3, q1, q2, q3, q4⟩ := hE.out
                        exact ⟨f, acc3, q1, q2, q3, by rw [q4]; exact hR4.out⟩
                      have a40 := box_cell (box_at HBX.out HO.out HB4.out) 0 (.int .i64 p.base) rfl
                      clear hR4 hB4 HB3 hR3 hO3 hE hal a30 k19
                      go_wp2
                      refine ⟨⟨X / R, kk + p.base, rfl, rfl, HQ.out.1, HQ.out.2.1, HQ.out.2.2.1, HQ.out.2.2.2.1, HE.out, HB4⟩, ?_⟩
                      have := HQ.out
                      simp [RowKit.intOf]; omega
                · have t2' : (Z != mm) = true := by simpa using t2
                  have HE : Hid (∃ (hn k : Nat) (np i : Int) (acc : List Int) (mk : Nat → Bool), h2 = (hn : Int) ∧ WkI p zs os F b O wp V hn k d2 bias2 mm (j + 1) np i acc mk ∧ ((h < h2 ∧ np = mm) ∨ (h = h2 ∧ ∃ x ∈ os.drop k, KZ zs x = mm))) := by
                    obtain ⟨hn, k, np, i, acc, mk, e1, W, hx⟩ := HW.out
                    exact ⟨hn, k, np, i, acc, mk, e1, W.skip d (by rw [hZ.out]; omega), hx⟩
                  clear HW t1 t2
                  go_wp2
                  refine ⟨⟨d2, bias2, h2, j + 1, rfl, rfl, rfl, by simp, by omega, d0, d1, g0, g1, HE, HB⟩, ?_⟩
                  simp [RowKit.intOf]; omega
            · obtain rfl : j = zs.length := by omega
              have d4 : decide ((zs.length : Int) < (zs.length : Int)) = false := by simp
              have HE : Hid (h < h2 ∧ ∃ (hn k : Nat) (np i : Int) (acc : List Int) (mk : Nat → Bool), h2 = (hn : Int) ∧ WkI p zs os F b O wp V hn k (d2 + 1) bias2 (mm + 1) 0 np i acc mk) := by
                obtain ⟨hn, k, np, i, acc, mk, e1, W, hx⟩ := HW.out
                refine ⟨?_, hn, k, np, i, acc, mk, e1, W.turn d1 HMM.out.2⟩
                rcases hx with ⟨q, -⟩ | ⟨-, x, hx, hK2⟩
                · exact q
                · exfalso
                  obtain ⟨x0, x1, x2⟩ := W.eo.rng x hx
                  have := (W.mks x.toNat (by omega)).2 (.inr ⟨hK2, by omega⟩)
                  rw [this] at x2; simp at x2
              clear HW d hj
              go_wp2
              refine ⟨⟨mm + 1, d2 + 1, bias2, h2, rfl, rfl, rfl, rfl, g0, g1, HE.out.2, HB⟩, ?_⟩
              have q1 := HE.out.1
              have q2 := HH.out
              have q3 := HH0.out
              simp [RowKit.intOf]; omega
    · have c2 : decide (h < (zs.length : Int)) = false := decide_eq_false c
      obtain ⟨hn, k, np, i, acc, mk, e1, W⟩ := HW.out
      have e2 := W.hk
      have e3 := W.bo
      have e4 := W.kl
      have e5 : os.drop k = [] := List.drop_eq_nil_of_le (by omega)
      have e6 := W.enc
      rw [e5, encW] at e6
      have e7 := W.len
      have hF : Hid (F = some acc) := by show _ = _; rw [← e6]; simp
      have hl : Hid (acc.length ≤ 8000000000000) := by have := HZ.out; show _ ≤ _; omega
      have hR : Hid (Rw .u8 5 O wo V acc) := W.out
      clear e1 W e2 e3 e4 e5 e6 e7 HW
      go_wp2
      exact hK.out acc _ _ V hF.out hR.out hl.out HB.out ⟨rfl, rfl, rfl, rfl, trivial⟩
end Go.Proofs.Ytahmeejcgddlhab
