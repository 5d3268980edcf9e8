/- A word is its bytes, one behind the other: the walk, where there is nothing above. -/
import Derived.Test.YtnlcllhjhbaigaaDoorBBytesP
import Derived.Test.YtnlcllhjhbaigaaDoorBytN
import Derived.Test.YtnlcllhjhbaigaaDoorGhost2
namespace Go.Proofs.YtnlcllhjhbaigaaDoor
open Go Go.RowKit Go.Shelf
attribute [local go_sem] Oper.semAt_some Grows wide_fn eq4

attribute [local go_sem] index0

set_option maxRecDepth 100000 in
set_option maxHeartbeats 4000000 in
theorem bytes_high (zA zK zX zM zY : Nat → Int) (bv : Nat → Int) (n m q v : Int) (hq : 0 ≤ q ∧ q < 40) (hk : ¬ q < 31) (hv : 0 ≤ v ∧ v < 256) (hbv : ∀ j, 0 ≤ bv j ∧ bv j < 256) (ho : ∀ k : Nat, k < 32 → Ret Tryd.prog 18 #[.int .i64 (k : Int)] (.agg #[.int .u64 (k : Int), .int .u64 0, .int .u64 0, .int .u64 0])) (hb : ∀ k : Nat, k < 32 → Ret Tryd.prog 26 #[.agg #[.int .u64 (k : Int), .int .u64 0, .int .u64 0, .int .u64 0], .agg #[.int .u64 (zA 0), .int .u64 (zA 1), .int .u64 (zA 2), .int .u64 (zA 3)]] (.agg #[.int .u64 (bv k), .int .u64 0, .int .u64 0, .int .u64 0])) (p1 : Ret Tryd.prog 19 #[.int .i64 n, .int .i64 40] (.int .i64 q)) (p2 : Ret Tryd.prog 19 #[.int .i64 m, .int .i64 256] (.int .i64 v)) (oq : Ret Tryd.prog 18 #[.int .i64 q] (.agg #[.int .u64 (zK 0), .int .u64 (zK 1), .int .u64 (zK 2), .int .u64 (zK 3)])) (sg : RetT Tryd.prog 28 #[.agg #[.int .u64 (zK 0), .int .u64 (zK 1), .int .u64 (zK 2), .int .u64 (zK 3)], .agg #[.int .u64 (zA 0), .int .u64 (zA 1), .int .u64 (zA 2), .int .u64 (zA 3)]] (.agg #[.int .u64 (zA 0), .int .u64 (zA 1), .int .u64 (zA 2), .int .u64 (zA 3)])) (rb : Ret Tryd.prog 33 #[.agg #[.int .u64 (zA 0), .int .u64 (zA 1), .int .u64 (zA 2), .int .u64 (zA 3)]] (.string (strB bv))) (s2 : RetT Tryd.prog 28 #[.agg #[.int .u64 (zK 0), .int .u64 (zK 1), .int .u64 (zK 2), .int .u64 (zK 3)], .agg #[.int .u64 (zA 0), .int .u64 (zA 1), .int .u64 (zA 2), .int .u64 (zA 3)]] (.agg #[.int .u64 (zA 0), .int .u64 (zA 1), .int .u64 (zA 2), .int .u64 (zA 3)])) (om : Ret Tryd.prog 18 #[.int .i64 (v - 128)] (.agg #[.int .u64 (zM 0), .int .u64 (zM 1), .int .u64 (zM 2), .int .u64 (zM 3)])) (s3 : RetT Tryd.prog 28 #[.agg #[.int .u64 (zK 0), .int .u64 (zK 1), .int .u64 (zK 2), .int .u64 (zK 3)], .agg #[.int .u64 (zM 0), .int .u64 (zM 1), .int .u64 (zM 2), .int .u64 (zM 3)]] (.agg #[.int .u64 (zM 0), .int .u64 (zM 1), .int .u64 (zM 2), .int .u64 (zM 3)])) (o7 : Ret Tryd.prog 18 #[.int .i64 127] (.agg #[.int .u64 127, .int .u64 0, .int .u64 0, .int .u64 0])) (n1 : Ret Tryd.prog 8 #[.agg #[.int .u64 (zA 0), .int .u64 (zA 1), .int .u64 (zA 2), .int .u64 (zA 3)], .agg #[.int .u64 127, .int .u64 0, .int .u64 0, .int .u64 0]] (.agg #[.int .u64 (zY 0), .int .u64 (zY 1), .int .u64 (zY 2), .int .u64 (zY 3)])) (n2 : Ret Tryd.prog 8 #[.agg #[.int .u64 (zA 0), .int .u64 (zA 1), .int .u64 (zA 2), .int .u64 (zA 3)], .agg #[.int .u64 127, .int .u64 0, .int .u64 0, .int .u64 0]] (.agg #[.int .u64 (zY 0), .int .u64 (zY 1), .int .u64 (zY 2), .int .u64 (zY 3)])) :
    RetT Tryd.prog 5 #[.agg #[.int .u64 (zA 0), .int .u64 (zA 1), .int .u64 (zA 2), .int .u64 (zA 3)], .int .i64 n, .int .i64 m] (.bool true) := by
  intro w HT
  have k0 := awake_ret
  obtain ⟨hq0, hq1⟩ := hq
  obtain ⟨hv0, hv1⟩ := hv
  have HBV := Lib.hid hbv
  have HO := Lib.hid ho
  have HB := Lib.hid hb
  clear hbv ho hb
  have Hp1 := Lib.hid p1
  have Hp2 := Lib.hid p2
  have Hoq := Lib.hid oq
  have Hsg := Lib.hid sg
  have Hrb := Lib.hid rb
  have Hs2 := Lib.hid s2
  have Hom := Lib.hid om
  have Hs3 := Lib.hid s3
  have Ho7 := Lib.hid o7
  have Hn1 := Lib.hid n1
  have Hn2 := Lib.hid n2
  have Hk0 := Lib.hid k0
  clear p1 p2 oq sg rb s2 om s3 o7 n1 n2 k0
  go_enter Tryd.func5, Tryd.ntmps5
  have LA := Has.new w 24 #[.int .u64 (zA 0), .int .u64 (zA 1), .int .u64 (zA 2), .int .u64 (zA 3)]
  have k1 := LA.cell 0 _ rfl
  have k2 := LA.cell 1 _ rfl
  have k3 := LA.cell 2 _ rfl
  have k4 := LA.cell 3 _ rfl
  have Q := (Below.refl w.heap.size w)
  have Q := Q.alloc Q.size (.cells #[.int .u64 (zA 0), .int .u64 (zA 1), .int .u64 (zA 2), .int .u64 (zA 3)] 24)
  have HT := HT.alloc (.cells #[.int .u64 (zA 0), .int .u64 (zA 1), .int .u64 (zA 2), .int .u64 (zA 3)] 24)
  go_wp2_with fail
  clear k1 k2 k3 k4
  obtain ⟨W1, hW1⟩ : ∃ W1, (w.alloc (.cells #[.int .u64 (zA 0), .int .u64 (zA 1), .int .u64 (zA 2), .int .u64 (zA 3)] 24)) = W1 := ⟨_, rfl⟩
  rw [hW1] at LA Q HT ⊢
  clear hW1
  refine (Hk0.out _ HT).mono ?_
  rintro e v5 ⟨rfl, q⟩
  have HT := HT.later q
  have LA := LA.later q
  have Q := Q.trans (q.mono Q.size)
  clear q
  have hAb := LA.lt
  have hwb := Q.size
  have RN := World.ownsRow_nil v5 v5.heap.size 5 1
  have hbs : v5.heap.size ≤ v5.heap.size := Nat.le_refl _
  go_wp2
  generalize hbase : v5.heap.size = base at hAb hwb RN hbs
  go_loopw [9, 10] (fun t i wr => ∃ (k : Nat) (tt : Value), tt = t ∧ k ≤ 32 ∧ i = .int .i64 (k : Int) ∧ wr.ownsRow base 5 1 t k (rowB bv k) ∧ Has wr w.heap.size 24 #[.int .u64 (zA 0), .int .u64 (zA 1), .int .u64 (zA 2), .int .u64 (zA 3)] ∧ Tab wr ∧ Below w.heap.size w wr ∧ base ≤ wr.heap.size) (fun _ i _ => 32 - (intOf i).toNat)
  case atStart => exact ⟨0, _, rfl, by omega, rfl, RN, LA, HT, Q, by omega⟩
  case round =>
    clear LA HT Q RN hbs hbase
    obtain ⟨k, t, rfl, hk, rfl, hown, LA, HT, Q, hbs⟩ := hrel
    by_cases hlt : k < 32
    · have hkI : (k : Int) < 32 := by omega
      have CO := Lib.hid (HO.out k hlt)
      have CB := Lib.hid (HB.out k hlt)
      have hbk := HBV.out k
      obtain ⟨hb0, hb1⟩ := hbk
      have HLT := Lib.hid hlt
      have hw0 := HT.lt
      clear HO HB hk hlt
      go_wp2_with fail
      refine Late.wp_region_ghost [some t, some (.func (.func 18) #[] #[]), some (.int .i64 (k : Int)), some (.agg #[.int .u64 (k : Int), .int .u64 0, .int .u64 0, .int .u64 0]), some (.agg #[.int .u64 (zA 0), .int .u64 (zA 1), .int .u64 (zA 2), .int .u64 (zA 3)]), some (.agg #[.int .u64 (bv k), .int .u64 0, .int .u64 0, .int .u64 0]), some (.int .u64 (bv k)), some (.int .u8 (bv k)), none, none, none] [[], [], [], [1, 2], [], [1, 2, 3, 4], [1, 2, 3, 4, 5], [1, 2, 3, 4, 5, 6], [1, 2, 3, 4, 5, 6, 7], [0, 1, 2, 3, 4, 5, 6, 7, 8], [0, 1, 2, 3, 4, 5, 6, 7, 8, 9]] (fun f g w' => base ≤ w'.heap.size ∧ Has w' w.heap.size 24 #[.int .u64 (zA 0), .int .u64 (zA 1), .int .u64 (zA 2), .int .u64 (zA 3)] ∧ Tab w' ∧ Below w.heap.size w w' ∧
          (f 8 = true → ∃ N, g 8 = .slice (some ⟨N, 0, none⟩) 1 1 ∧ (f 9 = false → w'.cell? ⟨N, 0, none⟩ = some (.int .u8 (bv k)))) ∧ (f 9 = false → w'.ownsRow base 5 1 t k (rowB bv k)) ∧ (f 9 = true → w'.ownsRow base 5 1 (g 9) (k + 1) (rowB bv k ++ [.int .u8 (bv k)])) ∧ (f 10 = true → f 9 = true → g 10 = g 9))
        (by kernel_rfl) (by kernel_rfl) (by kernel_rfl) ?_ ?_ ?_ ?_
      · rintro f g wa wb ⟨u1, u2, u3, u4, u5, u6, u7, u8⟩ hb
        exact ⟨Nat.le_trans u1 hb.size, u2.later hb, u3.later hb, u4.trans (hb.mono u4.size), fun e => by obtain ⟨N, e1, e2⟩ := u5 e; exact ⟨N, e1, fun e3 => (hb.cell (p := ⟨N, 0, none⟩) (lt_of_cellB (e2 e3))).trans (e2 e3)⟩, fun e => owns_below (u6 e) hb, fun e => owns_below (u7 e) hb, u8⟩
      · rintro f f' g g' wa h ⟨u1, u2, u3, u4, u5, u6, u7, u8⟩
        have a8 := h 8 rfl
        have a9 := h 9 rfl
        have a10 := h 10 rfl
        refine ⟨u1, u2, u3, u4, fun e => ?_, fun e => u6 (a9.1.trans e), fun e => ?_, fun e e9 => ?_⟩
        · have e' := a8.1.trans e
          obtain ⟨N, e1, e2⟩ := u5 e'
          exact ⟨N, a8.2.symm.trans e1, fun e3 => e2 (a9.1.trans e3)⟩
        · have e' := a9.1.trans e
          rw [← a9.2]
          exact u7 e'
        · have e' := a10.1.trans e
          have e9' := a9.1.trans e9
          rw [← a10.2, ← a9.2]
          exact u8 e' e9'
      · exact ⟨hbs, LA, ⟨HT.lt, HT.cell⟩, Q.drew, by simp, fun _ => owns_below hown (Below.refl _ _).drew, by simp, by simp⟩
      rintro f g y ⟨u1, u2, u3, u4, u5, u6, u7, u8⟩ Dn
      clear LA HT Q hown hbs
      have cA0 := u2.cell 0 _ rfl
      have cA1 := u2.cell 1 _ rfl
      have cA2 := u2.cell 2 _ rfl
      have cA3 := u2.cell 3 _ rfl
      obtain ⟨i0, hi, hz0, hz1, hz2⟩ := info_parts infoB
      refine GW.known _ rfl (fun hd hf => ?_) ?_
      · go_wp2
        exact ⟨rfl, rfl, Below.refl _ _⟩
      simp only [Act.put, List.setIfInBounds_toArray, List.set_cons_succ, List.set_cons_zero]
      refine GW.known _ rfl (fun hd hf => ?_) ?_
      · go_wp2
        exact ⟨rfl, rfl, Below.refl _ _⟩
      simp only [Act.put, List.setIfInBounds_toArray, List.set_cons_succ, List.set_cons_zero]
      refine GW.known _ rfl (fun hd hf => ?_) ?_
      · go_wp2
        exact ⟨rfl, rfl, Below.refl _ _⟩
      simp only [Act.put, List.setIfInBounds_toArray, List.set_cons_succ, List.set_cons_zero]
      refine GW.known _ rfl (fun hd hf => ?_) ?_
      · go_wp2_with fail
        refine (CO.out _).mono ?_
        rintro e u ⟨rfl, hb⟩
        go_wp2
        exact ⟨rfl, rfl, hb⟩
      simp only [Act.put, List.setIfInBounds_toArray, List.set_cons_succ, List.set_cons_zero]
      refine GW.known _ rfl (fun hd hf => ?_) ?_
      · go_wp2
        exact ⟨rfl, rfl, Below.refl _ _⟩
      simp only [Act.put, List.setIfInBounds_toArray, List.set_cons_succ, List.set_cons_zero]
      refine GW.known _ rfl (fun hd hf => ?_) ?_
      · go_wp2_with fail
        refine (CB.out _).mono ?_
        rintro e u ⟨rfl, hb⟩
        go_wp2
        exact ⟨rfl, rfl, hb⟩
      simp only [Act.put, List.setIfInBounds_toArray, List.set_cons_succ, List.set_cons_zero]
      refine GW.known _ rfl (fun hd hf => ?_) ?_
      · go_wp2
        exact ⟨rfl, rfl, Below.refl _ _⟩
      simp only [Act.put, List.setIfInBounds_toArray, List.set_cons_succ, List.set_cons_zero]
      refine GW.known _ rfl (fun hd hf => ?_) ?_
      · go_wp2
        exact ⟨rfl, rfl, Below.refl _ _⟩
      simp only [Act.put, List.setIfInBounds_toArray, List.set_cons_succ, List.set_cons_zero]
      refine GW.open rfl (fun hd hf => ?_) ?_
      · have f9 : f 9 = false := by
          cases h : f 9 with
          | false => rfl
          | true => have := Dn 9 h 8 (by decide); rw [hf] at this; cases this
        have s9 : upd f 8 true 9 = false := (upd_ne f true (show (9 : Nat) ≠ 8 by decide)).trans f9
        go_wp2
        refine ⟨rfl, by simp; omega, u2.alloc _, u3.alloc _, u4.alloc u4.size _, fun _ => ⟨y.heap.size, upd_self g 8 _, fun _ => (Has.new y 5 #[.int .u8 (bv k)]).cell 0 _ rfl⟩, fun _ => (u6 f9).alloc _, fun e => absurd (s9.symm.trans e) (by simp), fun _ e => absurd (s9.symm.trans e) (by simp)⟩
      simp only [Act.put, List.setIfInBounds_toArray, List.set_cons_succ, List.set_cons_zero]
      refine GW.open rfl (fun hd hf => ?_) ?_
      · obtain ⟨N, eN, hN⟩ := u5 (hd 8 (by decide))
        have hNc := hN hf
        have hO := u6 hf
        have HX := Lib.hid (rowB_succ bv k)
        rw [eN]
        refine wpList_append_own _ rfl _ _ 34 rfl base 5 i0 (.int .u8 0) 1 1 Tryd.underlying34 hi hz0 hz1 hz2 rfl (by decide) _ _ _ rfl hO ⟨N, 0, none⟩ 1 1 [.int .u8 (bv k)] rfl rfl (cell_one' hNc) (by simp [Value.oneCell']) (by unfold maxLen; have := HLT.out; omega) (by have := HLT.out; omega) u1 ?_
        intro v' w3 hown' hgrow hnil
        have hne := fun (r : Nat) e => (hO.lt r e).1
        go_wp2
        refine ⟨rfl, Nat.le_trans u1 hgrow.size, (hgrow.block _ u2.lt (fun e => by have := hne _ e.symm; omega)).trans u2, ⟨Nat.lt_of_lt_of_le u3.lt hgrow.size, fun j hj => (World.cell?_of_block (w := y) (hgrow.block 0 u3.lt (fun e => by have := hne _ e.symm; omega))).trans (u3.cell j hj)⟩, u4.grown hgrow (by omega) (fun j e => by have := hne j e; omega), fun e => ⟨N, (upd_ne g _ (show (8 : Nat) ≠ 9 by decide)).trans eN, fun e3 => Bool.noConfusion ((upd_self f 9 true).symm.trans e3)⟩, fun e => Bool.noConfusion ((upd_self f 9 true).symm.trans e), fun _ => ?_, fun e _ => ?_⟩
        · rw [upd_self]; exact hown'
        · have f10 : f 10 = false := by
            cases h : f 10 with
            | false => rfl
            | true => have := Dn 10 h 9 (by decide); rw [hf] at this; cases this
          exact absurd (((upd_ne f true (show (10 : Nat) ≠ 9 by decide)).trans f10).symm.trans e) (by simp)
      simp only [Act.put, List.setIfInBounds_toArray, List.set_cons_succ, List.set_cons_zero]
      refine GW.open rfl (fun hd hf => ?_) ?_
      · have e9 := hd 9 (by decide)
        go_wp2
        refine ⟨rfl, u1, u2, u3, u4, fun e => ?_, fun e => ?_, fun e => ?_, fun _ _ => ?_⟩
        · obtain ⟨N, eN, hN⟩ := u5 (hd 8 (by decide))
          exact ⟨N, (upd_ne g _ (show (8 : Nat) ≠ 10 by decide)).trans eN, fun e3 => hN ((upd_ne f true (show (9 : Nat) ≠ 10 by decide)).symm.trans e3)⟩
        · exact u6 ((upd_ne f true (show (9 : Nat) ≠ 10 by decide)).symm.trans e)
        · rw [upd_ne g _ (show (9 : Nat) ≠ 10 by decide)]; exact u7 e9
        · rw [upd_self, upd_ne g _ (show (9 : Nat) ≠ 10 by decide)]
          rfl
      simp only [Act.put, List.setIfInBounds_toArray, List.set_cons_succ, List.set_cons_zero]
      refine GW.nil (fun hall => ?_)
      have e9 := hall 9 (by omega)
      have O9 := u7 e9
      have E10 := u8 (hall 10 (by omega)) e9
      rw [E10]
      rw [← rowB_succ] at O9
      have N1 := Lib.hid u1
      have N2 := Lib.hid u2
      have N3 := Lib.hid u3
      have N4 := Lib.hid u4
      have N5 := Lib.hid O9
      clear u1 u2 u3 u4 u5 u6 u7 u8 O9 E10 e9 hall Dn cA0 cA1 cA2 cA3 hi hz0 hz1 hz2
      generalize g 9 = v9 at *
      generalize g 8 = v8 at *
      go_wp2
      go_roundw
      case rel => exact ⟨k + 1, _, rfl, by have := HLT.out; omega, by simp, N5.out, N2.out, N3.out, N4.out, N1.out⟩
      case measure => simp [intOf]; omega
    · obtain rfl : k = 32 := by omega
      obtain ⟨g', cap', rfl⟩ := ownsRow_succ (k := 31) hown
      have hcur : ∃ cur : Array Value, Has wr g' 5 cur ∧ ∀ j, j < 32 → cur[j]? = some (.int .u8 (bv j)) := by
        rcases hown.2 with ⟨e, _⟩ | ⟨g2, cap2, cur, e, _, hg2, _⟩
        · cases e
        · cases e
          exact ⟨cur, hg2, fun j hj => by
            have hc := hown.cells (g := g') rfl j (.int .u8 (bv j)) (by simp [rowB, hj])
            have hadd : (⟨g', 0, none⟩ : Addr).add j = ⟨g', j, none⟩ := by unfold Addr.add; split <;> simp_all
            rw [hadd] at hc
            simpa [World.cell?, hg2] using hc⟩
      obtain ⟨cur, LS, hcur⟩ := hcur
      clear hown hk hlt HO HB
      have k6 := LA.cell 0 _ rfl
      have k7 := LA.cell 1 _ rfl
      have k8 := LA.cell 2 _ rfl
      have k9 := LA.cell 3 _ rfl
      go_wp2_with fail
      clear k6 k7 k8 k9
      refine (Hp1.out _).mono ?_
      rintro e v10 ⟨rfl, q⟩
      have HT := HT.later q
      have LA := LA.later q
      have LS := LS.later q
      have Q := Q.trans (q.mono Q.size)
      clear q
      have k11 := LA.cell 0 _ rfl
      have k12 := LA.cell 1 _ rfl
      have k13 := LA.cell 2 _ rfl
      have k14 := LA.cell 3 _ rfl
      go_wp2_with fail
      clear k11 k12 k13 k14
      refine wp_region_ghost [some (.func (.func 18) #[] #[]), some (.int .i64 q), some (.agg #[.int .u64 (zK 0), .int .u64 (zK 1), .int .u64 (zK 2), .int .u64 (zK 3)]), some (.agg #[.int .u64 (zA 0), .int .u64 (zA 1), .int .u64 (zA 2), .int .u64 (zA 3)]), some (.agg #[.int .u64 (zA 0), .int .u64 (zA 1), .int .u64 (zA 2), .int .u64 (zA 3)]), none, none] [[], [], [0, 1], [], [0, 1, 2, 3], [], [0, 1, 2, 3, 4, 5]] (fun f g w' => Below v10.heap.size v10 w' ∧ (f 5 = true → ∃ B, g 5 = .pointer (some ⟨B, 0, none⟩) ∧ v10.heap.size ≤ B ∧ Has w' B 24 (cellsIf (f 6) #[.int .u64 (zA 0), .int .u64 (zA 1), .int .u64 (zA 2), .int .u64 (zA 3)] #[.int .u64 0, .int .u64 0, .int .u64 0, .int .u64 0])))
        (by kernel_rfl) (by kernel_rfl) (by kernel_rfl) ?_ ?_ ?_ ?_
      · rintro f g wa wb ⟨h1, h2⟩ hb
        exact ⟨h1.trans (hb.mono h1.size), fun h => let ⟨B, e, hB, hL⟩ := h2 h; ⟨B, e, hB, hL.later hb⟩⟩
      · intro f f' g g' wa h
        have ha := h 5 rfl
        have hs := h 6 rfl
        simp only [ha.1, ha.2, hs.1]
        exact id
      · exact ⟨(Below.refl _ _).drew, by simp⟩
      rintro f g y15 ⟨h1, h2⟩ Dn
      have LA := LA.later h1
      have LS := LS.later h1
      have HT := HT.later h1
      have k16 := LA.cell 0 _ rfl
      have k17 := LA.cell 1 _ rfl
      have k18 := LA.cell 2 _ rfl
      have k19 := LA.cell 3 _ rfl
      refine GW.known _ rfl (fun hd hf => ?_) ?_
      · go_wp2
        exact ⟨rfl, rfl, Below.refl _ _⟩
      simp only [Act.put, List.setIfInBounds_toArray, List.set_cons_succ, List.set_cons_zero]
      refine GW.known _ rfl (fun hd hf => ?_) ?_
      · go_wp2
        exact ⟨rfl, rfl, Below.refl _ _⟩
      simp only [Act.put, List.setIfInBounds_toArray, List.set_cons_succ, List.set_cons_zero]
      refine GW.known _ rfl (fun hd hf => ?_) ?_
      · go_wp2_with fail
        refine (Hoq.out _).mono ?_
        rintro e u ⟨rfl, hb⟩
        go_wp2
        exact ⟨rfl, rfl, hb⟩
      simp only [Act.put, List.setIfInBounds_toArray, List.set_cons_succ, List.set_cons_zero]
      refine GW.known _ rfl (fun hd hf => ?_) ?_
      · go_wp2
        exact ⟨rfl, rfl, Below.refl _ _⟩
      simp only [Act.put, List.setIfInBounds_toArray, List.set_cons_succ, List.set_cons_zero]
      refine GW.known _ rfl (fun hd hf => ?_) ?_
      · go_wp2_with fail
        refine (Hsg.out _ HT).mono ?_
        rintro e u ⟨rfl, hb⟩
        go_wp2
        exact ⟨rfl, rfl, hb⟩
      simp only [Act.put, List.setIfInBounds_toArray, List.set_cons_succ, List.set_cons_zero]
      refine GW.open rfl (fun hd hf => ?_) ?_
      · have fs : f 6 = false := by
          cases h : f 6 with
          | false => rfl
          | true => have := Dn 6 h 5 (by decide); rw [hf] at this; cases this
        have fu : upd f 5 true 6 = false := (upd_ne f true (show (6 : Nat) ≠ 5 by decide)).trans fs
        go_wp2
        refine ⟨rfl, h1.alloc h1.size _, fun _ => ⟨_, rfl, h1.size, ?_⟩⟩
        show Has _ _ 24 (cellsIf (upd f 5 true 6) #[.int .u64 (zA 0), .int .u64 (zA 1), .int .u64 (zA 2), .int .u64 (zA 3)] #[.int .u64 0, .int .u64 0, .int .u64 0, .int .u64 0])
        rw [fu, cellsIf_false]
        exact Has.new _ _ _
      simp only [Act.put, List.setIfInBounds_toArray, List.set_cons_succ, List.set_cons_zero]
      refine GW.open rfl (fun hd hf => ?_) ?_
      · obtain ⟨B, eB, hB, LB⟩ := h2 (hd 5 (by decide))
        rw [hf, cellsIf_false] at LB
        rw [eB]
        have c0 := LB.cell 0 _ rfl
        have z0 := LB.frozen 0
        have c1 := LB.cell 1 _ rfl
        have z1 := LB.frozen 1
        have c2 := LB.cell 2 _ rfl
        have z2 := LB.frozen 2
        have c3 := LB.cell 3 _ rfl
        have z3 := LB.frozen 3
        go_wp2
        refine ⟨rfl, ((((h1.setCell (p := ⟨B, 0, none⟩) hB (.int .u64 (zA 0))).setCell (p := ⟨B, 1, none⟩) hB (.int .u64 (zA 1))).setCell (p := ⟨B, 2, none⟩) hB (.int .u64 (zA 2))).setCell (p := ⟨B, 3, none⟩) hB (.int .u64 (zA 3))), fun _ => ⟨B, eB, hB, ?_⟩⟩
        show Has _ B 24 (cellsIf (upd f 6 true 6) #[.int .u64 (zA 0), .int .u64 (zA 1), .int .u64 (zA 2), .int .u64 (zA 3)] #[.int .u64 0, .int .u64 0, .int .u64 0, .int .u64 0])
        rw [upd_self, cellsIf_true]
        exact ((((LB.set 0 (.int .u64 (zA 0))).set 1 (.int .u64 (zA 1))).set 2 (.int .u64 (zA 2))).set 3 (.int .u64 (zA 3)))
      simp only [Act.put, List.setIfInBounds_toArray, List.set_cons_succ, List.set_cons_zero]
      refine GW.nil (fun hall => ?_)
      obtain ⟨b15, eB, hB, LX⟩ := h2 (hall 5 (by omega))
      rw [hall 6 (by omega), cellsIf_true] at LX
      have Q := Q.trans (h1.mono Q.size)
      clear h2 Dn hall k16 k17 k18 k19
      rw [eB]
      clear eB hB h1
      have k20 := LA.cell 0 _ rfl
      have k21 := LA.cell 1 _ rfl
      have k22 := LA.cell 2 _ rfl
      have k23 := LA.cell 3 _ rfl
      have k24 := LX.cell 0 _ rfl
      have k25 := LX.cell 1 _ rfl
      have k26 := LX.cell 2 _ rfl
      have k27 := LX.cell 3 _ rfl
      go_wp2_with fail
      clear k20 k21 k22 k23 k24 k25 k26 k27
      refine (Hp2.out _).mono ?_
      rintro e v28 ⟨rfl, q⟩
      have HT := HT.later q
      have LA := LA.later q
      have LS := LS.later q
      have LX := LX.later q
      have Q := Q.trans (q.mono Q.size)
      clear q
      have hcv : ∀ x : Ext v28, (convert 34 9 (.slice (some ⟨g', 0, none⟩) 32 cap')).run Tryd.prog x.w = .ok (.string (strB bv)) x.w := fun x => conv_row bv HBV.out (LS.later x.below) hcur
      clear LS
      generalize strB bv = sb at *
      have k29 := LA.cell 0 _ rfl
      have k30 := LA.cell 1 _ rfl
      have k31 := LA.cell 2 _ rfl
      have k32 := LA.cell 3 _ rfl
      have k33 := LX.cell 0 _ rfl
      have k34 := LX.cell 1 _ rfl
      have k35 := LX.cell 2 _ rfl
      have k36 := LX.cell 3 _ rfl
      go_wp2_with fail
      clear k29 k30 k31 k32 k33 k34 k35 k36
      have k37 : ∀ x : Ext v28, x.w.cell? ⟨w.heap.size, 0, none⟩ = some (.int .u64 (zA 0)) := fun x => (LA.later x.below).cell 0 _ rfl
      have k38 : ∀ x : Ext v28, x.w.cell? ⟨w.heap.size, 1, none⟩ = some (.int .u64 (zA 1)) := fun x => (LA.later x.below).cell 1 _ rfl
      have k39 : ∀ x : Ext v28, x.w.cell? ⟨w.heap.size, 2, none⟩ = some (.int .u64 (zA 2)) := fun x => (LA.later x.below).cell 2 _ rfl
      have k40 : ∀ x : Ext v28, x.w.cell? ⟨w.heap.size, 3, none⟩ = some (.int .u64 (zA 3)) := fun x => (LA.later x.below).cell 3 _ rfl
      have k41 : ∀ x : Ext v28, x.w.cell? ⟨b15, 0, none⟩ = some (.int .u64 (zA 0)) := fun x => (LX.later x.below).cell 0 _ rfl
      have k42 : ∀ x : Ext v28, x.w.cell? ⟨b15, 1, none⟩ = some (.int .u64 (zA 1)) := fun x => (LX.later x.below).cell 1 _ rfl
      have k43 : ∀ x : Ext v28, x.w.cell? ⟨b15, 2, none⟩ = some (.int .u64 (zA 2)) := fun x => (LX.later x.below).cell 2 _ rfl
      have k44 : ∀ x : Ext v28, x.w.cell? ⟨b15, 3, none⟩ = some (.int .u64 (zA 3)) := fun x => (LX.later x.below).cell 3 _ rfl
      clear LA LX
      have HQ := Lib.hid Q
      clear Q
      have hnl : ¬ q < 31 := by omega
      try simp only [List.append]
      refine wp_region_quick (C := Grows v28) (by kernel_rfl) (by kernel_rfl) (by kernel_rfl) (grows_refl v28) ?_
      repeat (go_big_quiet_step (first | (with_reducible exact Ret.at Hoq.out _) | (with_reducible exact Ret.at Hrb.out _) | (with_reducible exact RetT.at Hs2.out HT _) | (with_reducible exact Ret.at Hom.out _) | (with_reducible exact RetT.at Hs3.out HT _) | (with_reducible exact Ret.at Ho7.out _) | (with_reducible exact Ret.at Hn1.out _) | (with_reducible exact Ret.at Hn2.out _)))
      refine wpQuiet_nil ?_
      rintro _ ⟨x, rfl⟩
      go_wp2
      go_ret
      exact ⟨rfl, HQ.out.trans (x.below.mono HQ.out.size)⟩
end Go.Proofs.YtnlcllhjhbaigaaDoor
