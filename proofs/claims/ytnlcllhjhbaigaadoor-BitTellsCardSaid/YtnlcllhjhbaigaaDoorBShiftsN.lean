/- Shifts are products and quotients, where bits are lost. -/
import Derived.Test.YtnlcllhjhbaigaaDoorBitAwake
import Derived.Test.YtnlcllhjhbaigaaDoorRefX
import Derived.Test.YtnlcllhjhbaigaaDoorRefL
namespace Go.Proofs.YtnlcllhjhbaigaaDoor
open Go Go.RowKit
attribute [local go_sem] Oper.semAt_some Grows wide_fn eq4

set_option maxRecDepth 100000 in
set_option maxHeartbeats 4000000 in
theorem shifts_lost (zA zX zP zU zD zL zY zH zV zE zW zF zG zK : Nat → Int) (m n x y : Int) (hx : 0 ≤ x ∧ x < 256) (hy : 0 ≤ y ∧ y < 200) (hl : (zL 0 == zA 0 && zL 1 == zA 1 && zL 2 == zA 2 && zL 3 == zA 3) = false) (hh : (zH 0 == 0 && zH 1 == 0 && zH 2 == 0 && zH 3 == 0) = false) (p1 : Ret Tryd.prog 19 #[.int .i64 m, .int .i64 256] (.int .i64 x)) (p2 : Ret Tryd.prog 19 #[.int .i64 n, .int .i64 200] (.int .i64 y)) (o2 : Ret Tryd.prog 18 #[.int .i64 2] (.agg #[.int .u64 2, .int .u64 0, .int .u64 0, .int .u64 0])) (ox : Ret Tryd.prog 18 #[.int .i64 x] (.agg #[.int .u64 (zX 0), .int .u64 (zX 1), .int .u64 (zX 2), .int .u64 (zX 3)])) (ex : Ret Tryd.prog 30 #[.agg #[.int .u64 2, .int .u64 0, .int .u64 0, .int .u64 0], .agg #[.int .u64 (zX 0), .int .u64 (zX 1), .int .u64 (zX 2), .int .u64 (zX 3)]] (.agg #[.int .u64 (zP 0), .int .u64 (zP 1), .int .u64 (zP 2), .int .u64 (zP 3)])) (s1 : RetT Tryd.prog 20 #[.agg #[.int .u64 (zX 0), .int .u64 (zX 1), .int .u64 (zX 2), .int .u64 (zX 3)], .agg #[.int .u64 (zA 0), .int .u64 (zA 1), .int .u64 (zA 2), .int .u64 (zA 3)]] (.agg #[.int .u64 (zU 0), .int .u64 (zU 1), .int .u64 (zU 2), .int .u64 (zU 3)])) (s2 : RetT Tryd.prog 22 #[.agg #[.int .u64 (zX 0), .int .u64 (zX 1), .int .u64 (zX 2), .int .u64 (zX 3)], .agg #[.int .u64 (zA 0), .int .u64 (zA 1), .int .u64 (zA 2), .int .u64 (zA 3)]] (.agg #[.int .u64 (zD 0), .int .u64 (zD 1), .int .u64 (zD 2), .int .u64 (zD 3)])) (lo : RetT Tryd.prog 22 #[.agg #[.int .u64 (zX 0), .int .u64 (zX 1), .int .u64 (zX 2), .int .u64 (zX 3)], .agg #[.int .u64 (zU 0), .int .u64 (zU 1), .int .u64 (zU 2), .int .u64 (zU 3)]] (.agg #[.int .u64 (zL 0), .int .u64 (zL 1), .int .u64 (zL 2), .int .u64 (zL 3)])) (o3 : Ret Tryd.prog 18 #[.int .i64 (256 - x)] (.agg #[.int .u64 (zY 0), .int .u64 (zY 1), .int .u64 (zY 2), .int .u64 (zY 3)])) (hi : RetT Tryd.prog 22 #[.agg #[.int .u64 (zY 0), .int .u64 (zY 1), .int .u64 (zY 2), .int .u64 (zY 3)], .agg #[.int .u64 (zA 0), .int .u64 (zA 1), .int .u64 (zA 2), .int .u64 (zA 3)]] (.agg #[.int .u64 (zH 0), .int .u64 (zH 1), .int .u64 (zH 2), .int .u64 (zH 3)])) (mu : Ret Tryd.prog 31 #[.agg #[.int .u64 (zA 0), .int .u64 (zA 1), .int .u64 (zA 2), .int .u64 (zA 3)], .agg #[.int .u64 (zP 0), .int .u64 (zP 1), .int .u64 (zP 2), .int .u64 (zP 3)]] (.agg #[.int .u64 (zU 0), .int .u64 (zU 1), .int .u64 (zU 2), .int .u64 (zU 3)])) (di : Ret Tryd.prog 32 #[.agg #[.int .u64 (zA 0), .int .u64 (zA 1), .int .u64 (zA 2), .int .u64 (zA 3)], .agg #[.int .u64 (zP 0), .int .u64 (zP 1), .int .u64 (zP 2), .int .u64 (zP 3)]] (.agg #[.int .u64 (zD 0), .int .u64 (zD 1), .int .u64 (zD 2), .int .u64 (zD 3)])) (oy : Ret Tryd.prog 18 #[.int .i64 y] (.agg #[.int .u64 (zV 0), .int .u64 (zV 1), .int .u64 (zV 2), .int .u64 (zV 3)])) (s3 : RetT Tryd.prog 20 #[.agg #[.int .u64 (zV 0), .int .u64 (zV 1), .int .u64 (zV 2), .int .u64 (zV 3)], .agg #[.int .u64 (zU 0), .int .u64 (zU 1), .int .u64 (zU 2), .int .u64 (zU 3)]] (.agg #[.int .u64 (zE 0), .int .u64 (zE 1), .int .u64 (zE 2), .int .u64 (zE 3)])) (oz : Ret Tryd.prog 18 #[.int .i64 (x + y)] (.agg #[.int .u64 (zW 0), .int .u64 (zW 1), .int .u64 (zW 2), .int .u64 (zW 3)])) (s4 : RetT Tryd.prog 20 #[.agg #[.int .u64 (zW 0), .int .u64 (zW 1), .int .u64 (zW 2), .int .u64 (zW 3)], .agg #[.int .u64 (zA 0), .int .u64 (zA 1), .int .u64 (zA 2), .int .u64 (zA 3)]] (.agg #[.int .u64 (zE 0), .int .u64 (zE 1), .int .u64 (zE 2), .int .u64 (zE 3)])) (s5 : RetT Tryd.prog 22 #[.agg #[.int .u64 (zV 0), .int .u64 (zV 1), .int .u64 (zV 2), .int .u64 (zV 3)], .agg #[.int .u64 (zD 0), .int .u64 (zD 1), .int .u64 (zD 2), .int .u64 (zD 3)]] (.agg #[.int .u64 (zF 0), .int .u64 (zF 1), .int .u64 (zF 2), .int .u64 (zF 3)])) (s6 : RetT Tryd.prog 22 #[.agg #[.int .u64 (zW 0), .int .u64 (zW 1), .int .u64 (zW 2), .int .u64 (zW 3)], .agg #[.int .u64 (zA 0), .int .u64 (zA 1), .int .u64 (zA 2), .int .u64 (zA 3)]] (.agg #[.int .u64 (zF 0), .int .u64 (zF 1), .int .u64 (zF 2), .int .u64 (zF 3)])) (a1 : RetT Tryd.prog 24 #[.agg #[.int .u64 (zX 0), .int .u64 (zX 1), .int .u64 (zX 2), .int .u64 (zX 3)], .agg #[.int .u64 (zA 0), .int .u64 (zA 1), .int .u64 (zA 2), .int .u64 (zA 3)]] (.agg #[.int .u64 (zG 0), .int .u64 (zG 1), .int .u64 (zG 2), .int .u64 (zG 3)])) (a2 : RetT Tryd.prog 24 #[.agg #[.int .u64 (zV 0), .int .u64 (zV 1), .int .u64 (zV 2), .int .u64 (zV 3)], .agg #[.int .u64 (zG 0), .int .u64 (zG 1), .int .u64 (zG 2), .int .u64 (zG 3)]] (.agg #[.int .u64 (zK 0), .int .u64 (zK 1), .int .u64 (zK 2), .int .u64 (zK 3)])) (a3 : RetT Tryd.prog 24 #[.agg #[.int .u64 (zW 0), .int .u64 (zW 1), .int .u64 (zW 2), .int .u64 (zW 3)], .agg #[.int .u64 (zA 0), .int .u64 (zA 1), .int .u64 (zA 2), .int .u64 (zA 3)]] (.agg #[.int .u64 (zK 0), .int .u64 (zK 1), .int .u64 (zK 2), .int .u64 (zK 3)])) :
    RetT Tryd.prog 4 #[.agg #[.int .u64 (zA 0), .int .u64 (zA 1), .int .u64 (zA 2), .int .u64 (zA 3)], .int .i64 m, .int .i64 n] (.bool true) := by
  intro w HT
  have k0 := awake_ret
  obtain ⟨hx0, hx1⟩ := hx
  obtain ⟨hy0, hy1⟩ := hy
  have Hp1 := Lib.hid p1
  have Hp2 := Lib.hid p2
  have Ho2 := Lib.hid o2
  have Hox := Lib.hid ox
  have Hex := Lib.hid ex
  have Hs1 := Lib.hid s1
  have Hs2 := Lib.hid s2
  have Hlo := Lib.hid lo
  have Ho3 := Lib.hid o3
  have Hhi := Lib.hid hi
  have Hmu := Lib.hid mu
  have Hdi := Lib.hid di
  have Hoy := Lib.hid oy
  have Hs3 := Lib.hid s3
  have Hoz := Lib.hid oz
  have Hs4 := Lib.hid s4
  have Hs5 := Lib.hid s5
  have Hs6 := Lib.hid s6
  have Ha1 := Lib.hid a1
  have Ha2 := Lib.hid a2
  have Ha3 := Lib.hid a3
  have Hk0 := Lib.hid k0
  clear p1 p2 o2 ox ex s1 s2 lo o3 hi mu di oy s3 oz s4 s5 s6 a1 a2 a3 k0
  go_enter Tryd.func4, Tryd.ntmps4
  have LA := Has.new w 24 #[.int .u64 (zA 0), .int .u64 (zA 1), .int .u64 (zA 2), .int .u64 (zA 3)]
  have k1 := LA.cell 0 _ rfl
  have k2 := LA.cell 1 _ rfl
  have k3 := LA.cell 2 _ rfl
  have k4 := LA.cell 3 _ rfl
  have Q := (Below.refl w.heap.size w)
  have Q := Q.alloc Q.size (.cells #[.int .u64 (zA 0), .int .u64 (zA 1), .int .u64 (zA 2), .int .u64 (zA 3)] 24)
  have HT := HT.alloc (.cells #[.int .u64 (zA 0), .int .u64 (zA 1), .int .u64 (zA 2), .int .u64 (zA 3)] 24)
  go_wp2_with fail
  clear k1 k2 k3 k4
  obtain ⟨W1, hW1⟩ : ∃ W1, (w.alloc (.cells #[.int .u64 (zA 0), .int .u64 (zA 1), .int .u64 (zA 2), .int .u64 (zA 3)] 24)) = W1 := ⟨_, rfl⟩
  rw [hW1] at LA Q HT ⊢
  clear hW1
  refine (Hk0.out _ HT).mono ?_
  rintro e v5 ⟨rfl, q⟩
  have HT := HT.later q
  have LA := LA.later q
  have Q := Q.trans (q.mono Q.size)
  clear q
  have k6 := LA.cell 0 _ rfl
  have k7 := LA.cell 1 _ rfl
  have k8 := LA.cell 2 _ rfl
  have k9 := LA.cell 3 _ rfl
  go_wp2_with fail
  clear k6 k7 k8 k9
  refine (Hp1.out _).mono ?_
  rintro e v10 ⟨rfl, q⟩
  have HT := HT.later q
  have LA := LA.later q
  have Q := Q.trans (q.mono Q.size)
  clear q
  have k11 := LA.cell 0 _ rfl
  have k12 := LA.cell 1 _ rfl
  have k13 := LA.cell 2 _ rfl
  have k14 := LA.cell 3 _ rfl
  go_wp2_with fail
  clear k11 k12 k13 k14
  refine (Hp2.out _).mono ?_
  rintro e v15 ⟨rfl, q⟩
  have HT := HT.later q
  have LA := LA.later q
  have Q := Q.trans (q.mono Q.size)
  clear q
  have k16 := LA.cell 0 _ rfl
  have k17 := LA.cell 1 _ rfl
  have k18 := LA.cell 2 _ rfl
  have k19 := LA.cell 3 _ rfl
  go_wp2_with fail
  clear k16 k17 k18 k19
  refine (Ho2.out _).mono ?_
  rintro e v20 ⟨rfl, q⟩
  have HT := HT.later q
  have LA := LA.later q
  have Q := Q.trans (q.mono Q.size)
  clear q
  have k21 := LA.cell 0 _ rfl
  have k22 := LA.cell 1 _ rfl
  have k23 := LA.cell 2 _ rfl
  have k24 := LA.cell 3 _ rfl
  go_wp2_with fail
  clear k21 k22 k23 k24
  refine (Hox.out _).mono ?_
  rintro e v25 ⟨rfl, q⟩
  have HT := HT.later q
  have LA := LA.later q
  have Q := Q.trans (q.mono Q.size)
  clear q
  have k26 := LA.cell 0 _ rfl
  have k27 := LA.cell 1 _ rfl
  have k28 := LA.cell 2 _ rfl
  have k29 := LA.cell 3 _ rfl
  go_wp2_with fail
  clear k26 k27 k28 k29
  refine (Hex.out _).mono ?_
  rintro e v30 ⟨rfl, q⟩
  have HT := HT.later q
  have LA := LA.later q
  have Q := Q.trans (q.mono Q.size)
  clear q
  have k31 := LA.cell 0 _ rfl
  have k32 := LA.cell 1 _ rfl
  have k33 := LA.cell 2 _ rfl
  have k34 := LA.cell 3 _ rfl
  have LA := LA.alloc (.cells #[.int .u64 (zP 0), .int .u64 (zP 1), .int .u64 (zP 2), .int .u64 (zP 3)] 24)
  have LP := Has.new v30 24 #[.int .u64 (zP 0), .int .u64 (zP 1), .int .u64 (zP 2), .int .u64 (zP 3)]
  have k35 := LA.cell 0 _ rfl
  have k36 := LA.cell 1 _ rfl
  have k37 := LA.cell 2 _ rfl
  have k38 := LA.cell 3 _ rfl
  have k39 := LP.cell 0 _ rfl
  have k40 := LP.cell 1 _ rfl
  have k41 := LP.cell 2 _ rfl
  have k42 := LP.cell 3 _ rfl
  have Q := Q.alloc Q.size (.cells #[.int .u64 (zP 0), .int .u64 (zP 1), .int .u64 (zP 2), .int .u64 (zP 3)] 24)
  have HT := HT.alloc (.cells #[.int .u64 (zP 0), .int .u64 (zP 1), .int .u64 (zP 2), .int .u64 (zP 3)] 24)
  go_wp2_with fail
  clear k31 k32 k33 k34 k35 k36 k37 k38 k39 k40 k41 k42
  obtain ⟨W2, hW2⟩ : ∃ W2, (v30.alloc (.cells #[.int .u64 (zP 0), .int .u64 (zP 1), .int .u64 (zP 2), .int .u64 (zP 3)] 24)) = W2 := ⟨_, rfl⟩
  rw [hW2] at LA LP Q HT ⊢
  clear hW2
  generalize v30.heap.size = b2 at *
  refine wp_region_ghost [some (.func (.func 18) #[] #[]), some (.int .i64 x), some (.agg #[.int .u64 (zX 0), .int .u64 (zX 1), .int .u64 (zX 2), .int .u64 (zX 3)]), some (.agg #[.int .u64 (zA 0), .int .u64 (zA 1), .int .u64 (zA 2), .int .u64 (zA 3)]), some (.agg #[.int .u64 (zU 0), .int .u64 (zU 1), .int .u64 (zU 2), .int .u64 (zU 3)]), none, none] [[], [], [0, 1], [], [0, 1, 2, 3], [], [0, 1, 2, 3, 4, 5]] (fun f g w' => Below W2.heap.size W2 w' ∧ (f 5 = true → ∃ B, g 5 = .pointer (some ⟨B, 0, none⟩) ∧ W2.heap.size ≤ B ∧ Has w' B 24 (cellsIf (f 6) #[.int .u64 (zU 0), .int .u64 (zU 1), .int .u64 (zU 2), .int .u64 (zU 3)] #[.int .u64 0, .int .u64 0, .int .u64 0, .int .u64 0])))
    (by kernel_rfl) (by kernel_rfl) (by kernel_rfl) ?_ ?_ ?_ ?_
  · rintro f g wa wb ⟨h1, h2⟩ hb
    exact ⟨h1.trans (hb.mono h1.size), fun h => let ⟨B, e, hB, hL⟩ := h2 h; ⟨B, e, hB, hL.later hb⟩⟩
  · intro f f' g g' wa h
    have ha := h 5 rfl
    have hs := h 6 rfl
    simp only [ha.1, ha.2, hs.1]
    exact id
  · exact ⟨(Below.refl _ _).drew, by simp⟩
  rintro f g y43 ⟨h1, h2⟩ Dn
  have LA := LA.later h1
  have LP := LP.later h1
  have HT := HT.later h1
  have k44 := LA.cell 0 _ rfl
  have k45 := LA.cell 1 _ rfl
  have k46 := LA.cell 2 _ rfl
  have k47 := LA.cell 3 _ rfl
  have k48 := LP.cell 0 _ rfl
  have k49 := LP.cell 1 _ rfl
  have k50 := LP.cell 2 _ rfl
  have k51 := LP.cell 3 _ rfl
  refine GW.known _ rfl (fun hd hf => ?_) ?_
  · go_wp2
    exact ⟨rfl, rfl, Below.refl _ _⟩
  simp only [Act.put, List.setIfInBounds_toArray, List.set_cons_succ, List.set_cons_zero]
  refine GW.known _ rfl (fun hd hf => ?_) ?_
  · go_wp2
    exact ⟨rfl, rfl, Below.refl _ _⟩
  simp only [Act.put, List.setIfInBounds_toArray, List.set_cons_succ, List.set_cons_zero]
  refine GW.known _ rfl (fun hd hf => ?_) ?_
  · go_wp2_with fail
    refine (Hox.out _).mono ?_
    rintro e u ⟨rfl, hb⟩
    go_wp2
    exact ⟨rfl, rfl, hb⟩
  simp only [Act.put, List.setIfInBounds_toArray, List.set_cons_succ, List.set_cons_zero]
  refine GW.known _ rfl (fun hd hf => ?_) ?_
  · go_wp2
    exact ⟨rfl, rfl, Below.refl _ _⟩
  simp only [Act.put, List.setIfInBounds_toArray, List.set_cons_succ, List.set_cons_zero]
  refine GW.known _ rfl (fun hd hf => ?_) ?_
  · go_wp2_with fail
    refine (Hs1.out _ HT).mono ?_
    rintro e u ⟨rfl, hb⟩
    go_wp2
    exact ⟨rfl, rfl, hb⟩
  simp only [Act.put, List.setIfInBounds_toArray, List.set_cons_succ, List.set_cons_zero]
  refine GW.open rfl (fun hd hf => ?_) ?_
  · have fs : f 6 = false := by
      cases h : f 6 with
      | false => rfl
      | true => have := Dn 6 h 5 (by decide); rw [hf] at this; cases this
    have fu : upd f 5 true 6 = false := (upd_ne f true (show (6 : Nat) ≠ 5 by decide)).trans fs
    go_wp2
    refine ⟨rfl, h1.alloc h1.size _, fun _ => ⟨_, rfl, h1.size, ?_⟩⟩
    show Has _ _ 24 (cellsIf (upd f 5 true 6) #[.int .u64 (zU 0), .int .u64 (zU 1), .int .u64 (zU 2), .int .u64 (zU 3)] #[.int .u64 0, .int .u64 0, .int .u64 0, .int .u64 0])
    rw [fu, cellsIf_false]
    exact Has.new _ _ _
  simp only [Act.put, List.setIfInBounds_toArray, List.set_cons_succ, List.set_cons_zero]
  refine GW.open rfl (fun hd hf => ?_) ?_
  · obtain ⟨B, eB, hB, LB⟩ := h2 (hd 5 (by decide))
    rw [hf, cellsIf_false] at LB
    rw [eB]
    have c0 := LB.cell 0 _ rfl
    have z0 := LB.frozen 0
    have c1 := LB.cell 1 _ rfl
    have z1 := LB.frozen 1
    have c2 := LB.cell 2 _ rfl
    have z2 := LB.frozen 2
    have c3 := LB.cell 3 _ rfl
    have z3 := LB.frozen 3
    go_wp2
    refine ⟨rfl, ((((h1.setCell (p := ⟨B, 0, none⟩) hB (.int .u64 (zU 0))).setCell (p := ⟨B, 1, none⟩) hB (.int .u64 (zU 1))).setCell (p := ⟨B, 2, none⟩) hB (.int .u64 (zU 2))).setCell (p := ⟨B, 3, none⟩) hB (.int .u64 (zU 3))), fun _ => ⟨B, eB, hB, ?_⟩⟩
    show Has _ B 24 (cellsIf (upd f 6 true 6) #[.int .u64 (zU 0), .int .u64 (zU 1), .int .u64 (zU 2), .int .u64 (zU 3)] #[.int .u64 0, .int .u64 0, .int .u64 0, .int .u64 0])
    rw [upd_self, cellsIf_true]
    exact ((((LB.set 0 (.int .u64 (zU 0))).set 1 (.int .u64 (zU 1))).set 2 (.int .u64 (zU 2))).set 3 (.int .u64 (zU 3)))
  simp only [Act.put, List.setIfInBounds_toArray, List.set_cons_succ, List.set_cons_zero]
  refine GW.nil (fun hall => ?_)
  obtain ⟨b43, eB, hB, LU⟩ := h2 (hall 5 (by omega))
  rw [hall 6 (by omega), cellsIf_true] at LU
  have Q := Q.trans (h1.mono Q.size)
  clear h2 Dn hall k44 k45 k46 k47 k48 k49 k50 k51
  rw [eB]
  clear eB hB h1
  have k52 := LA.cell 0 _ rfl
  have k53 := LA.cell 1 _ rfl
  have k54 := LA.cell 2 _ rfl
  have k55 := LA.cell 3 _ rfl
  have k56 := LP.cell 0 _ rfl
  have k57 := LP.cell 1 _ rfl
  have k58 := LP.cell 2 _ rfl
  have k59 := LP.cell 3 _ rfl
  have k60 := LU.cell 0 _ rfl
  have k61 := LU.cell 1 _ rfl
  have k62 := LU.cell 2 _ rfl
  have k63 := LU.cell 3 _ rfl
  go_wp2_with fail
  clear k52 k53 k54 k55 k56 k57 k58 k59 k60 k61 k62 k63
  refine wp_region_ghost [some (.func (.func 18) #[] #[]), some (.int .i64 x), some (.agg #[.int .u64 (zX 0), .int .u64 (zX 1), .int .u64 (zX 2), .int .u64 (zX 3)]), some (.agg #[.int .u64 (zA 0), .int .u64 (zA 1), .int .u64 (zA 2), .int .u64 (zA 3)]), some (.agg #[.int .u64 (zD 0), .int .u64 (zD 1), .int .u64 (zD 2), .int .u64 (zD 3)]), none, none] [[], [], [0, 1], [], [0, 1, 2, 3], [], [0, 1, 2, 3, 4, 5]] (fun f g w' => Below y43.heap.size y43 w' ∧ (f 5 = true → ∃ B, g 5 = .pointer (some ⟨B, 0, none⟩) ∧ y43.heap.size ≤ B ∧ Has w' B 24 (cellsIf (f 6) #[.int .u64 (zD 0), .int .u64 (zD 1), .int .u64 (zD 2), .int .u64 (zD 3)] #[.int .u64 0, .int .u64 0, .int .u64 0, .int .u64 0])))
    (by kernel_rfl) (by kernel_rfl) (by kernel_rfl) ?_ ?_ ?_ ?_
  · rintro f g wa wb ⟨h1, h2⟩ hb
    exact ⟨h1.trans (hb.mono h1.size), fun h => let ⟨B, e, hB, hL⟩ := h2 h; ⟨B, e, hB, hL.later hb⟩⟩
  · intro f f' g g' wa h
    have ha := h 5 rfl
    have hs := h 6 rfl
    simp only [ha.1, ha.2, hs.1]
    exact id
  · exact ⟨(Below.refl _ _).drew, by simp⟩
  rintro f g y64 ⟨h1, h2⟩ Dn
  have LA := LA.later h1
  have LP := LP.later h1
  have LU := LU.later h1
  have HT := HT.later h1
  have k65 := LA.cell 0 _ rfl
  have k66 := LA.cell 1 _ rfl
  have k67 := LA.cell 2 _ rfl
  have k68 := LA.cell 3 _ rfl
  have k69 := LP.cell 0 _ rfl
  have k70 := LP.cell 1 _ rfl
  have k71 := LP.cell 2 _ rfl
  have k72 := LP.cell 3 _ rfl
  have k73 := LU.cell 0 _ rfl
  have k74 := LU.cell 1 _ rfl
  have k75 := LU.cell 2 _ rfl
  have k76 := LU.cell 3 _ rfl
  refine GW.known _ rfl (fun hd hf => ?_) ?_
  · go_wp2
    exact ⟨rfl, rfl, Below.refl _ _⟩
  simp only [Act.put, List.setIfInBounds_toArray, List.set_cons_succ, List.set_cons_zero]
  refine GW.known _ rfl (fun hd hf => ?_) ?_
  · go_wp2
    exact ⟨rfl, rfl, Below.refl _ _⟩
  simp only [Act.put, List.setIfInBounds_toArray, List.set_cons_succ, List.set_cons_zero]
  refine GW.known _ rfl (fun hd hf => ?_) ?_
  · go_wp2_with fail
    refine (Hox.out _).mono ?_
    rintro e u ⟨rfl, hb⟩
    go_wp2
    exact ⟨rfl, rfl, hb⟩
  simp only [Act.put, List.setIfInBounds_toArray, List.set_cons_succ, List.set_cons_zero]
  refine GW.known _ rfl (fun hd hf => ?_) ?_
  · go_wp2
    exact ⟨rfl, rfl, Below.refl _ _⟩
  simp only [Act.put, List.setIfInBounds_toArray, List.set_cons_succ, List.set_cons_zero]
  refine GW.known _ rfl (fun hd hf => ?_) ?_
  · go_wp2_with fail
    refine (Hs2.out _ HT).mono ?_
    rintro e u ⟨rfl, hb⟩
    go_wp2
    exact ⟨rfl, rfl, hb⟩
  simp only [Act.put, List.setIfInBounds_toArray, List.set_cons_succ, List.set_cons_zero]
  refine GW.open rfl (fun hd hf => ?_) ?_
  · have fs : f 6 = false := by
      cases h : f 6 with
      | false => rfl
      | true => have := Dn 6 h 5 (by decide); rw [hf] at this; cases this
    have fu : upd f 5 true 6 = false := (upd_ne f true (show (6 : Nat) ≠ 5 by decide)).trans fs
    go_wp2
    refine ⟨rfl, h1.alloc h1.size _, fun _ => ⟨_, rfl, h1.size, ?_⟩⟩
    show Has _ _ 24 (cellsIf (upd f 5 true 6) #[.int .u64 (zD 0), .int .u64 (zD 1), .int .u64 (zD 2), .int .u64 (zD 3)] #[.int .u64 0, .int .u64 0, .int .u64 0, .int .u64 0])
    rw [fu, cellsIf_false]
    exact Has.new _ _ _
  simp only [Act.put, List.setIfInBounds_toArray, List.set_cons_succ, List.set_cons_zero]
  refine GW.open rfl (fun hd hf => ?_) ?_
  · obtain ⟨B, eB, hB, LB⟩ := h2 (hd 5 (by decide))
    rw [hf, cellsIf_false] at LB
    rw [eB]
    have c0 := LB.cell 0 _ rfl
    have z0 := LB.frozen 0
    have c1 := LB.cell 1 _ rfl
    have z1 := LB.frozen 1
    have c2 := LB.cell 2 _ rfl
    have z2 := LB.frozen 2
    have c3 := LB.cell 3 _ rfl
    have z3 := LB.frozen 3
    go_wp2
    refine ⟨rfl, ((((h1.setCell (p := ⟨B, 0, none⟩) hB (.int .u64 (zD 0))).setCell (p := ⟨B, 1, none⟩) hB (.int .u64 (zD 1))).setCell (p := ⟨B, 2, none⟩) hB (.int .u64 (zD 2))).setCell (p := ⟨B, 3, none⟩) hB (.int .u64 (zD 3))), fun _ => ⟨B, eB, hB, ?_⟩⟩
    show Has _ B 24 (cellsIf (upd f 6 true 6) #[.int .u64 (zD 0), .int .u64 (zD 1), .int .u64 (zD 2), .int .u64 (zD 3)] #[.int .u64 0, .int .u64 0, .int .u64 0, .int .u64 0])
    rw [upd_self, cellsIf_true]
    exact ((((LB.set 0 (.int .u64 (zD 0))).set 1 (.int .u64 (zD 1))).set 2 (.int .u64 (zD 2))).set 3 (.int .u64 (zD 3)))
  simp only [Act.put, List.setIfInBounds_toArray, List.set_cons_succ, List.set_cons_zero]
  refine GW.nil (fun hall => ?_)
  obtain ⟨b64, eB, hB, LD⟩ := h2 (hall 5 (by omega))
  rw [hall 6 (by omega), cellsIf_true] at LD
  have Q := Q.trans (h1.mono Q.size)
  clear h2 Dn hall k65 k66 k67 k68 k69 k70 k71 k72 k73 k74 k75 k76
  rw [eB]
  clear eB hB h1
  have k77 := LA.cell 0 _ rfl
  have k78 := LA.cell 1 _ rfl
  have k79 := LA.cell 2 _ rfl
  have k80 := LA.cell 3 _ rfl
  have k81 := LU.cell 0 _ rfl
  have k82 := LU.cell 1 _ rfl
  have k83 := LU.cell 2 _ rfl
  have k84 := LU.cell 3 _ rfl
  go_wp2_with fail
  clear k77 k78 k79 k80 k81 k82 k83 k84
  have k85 : ∀ x : Ext y64, x.w.cell? ⟨w.heap.size, 0, none⟩ = some (.int .u64 (zA 0)) := fun x => (LA.later x.below).cell 0 _ rfl
  have k86 : ∀ x : Ext y64, x.w.cell? ⟨w.heap.size, 1, none⟩ = some (.int .u64 (zA 1)) := fun x => (LA.later x.below).cell 1 _ rfl
  have k87 : ∀ x : Ext y64, x.w.cell? ⟨w.heap.size, 2, none⟩ = some (.int .u64 (zA 2)) := fun x => (LA.later x.below).cell 2 _ rfl
  have k88 : ∀ x : Ext y64, x.w.cell? ⟨w.heap.size, 3, none⟩ = some (.int .u64 (zA 3)) := fun x => (LA.later x.below).cell 3 _ rfl
  have k89 : ∀ x : Ext y64, x.w.cell? ⟨b43, 0, none⟩ = some (.int .u64 (zU 0)) := fun x => (LU.later x.below).cell 0 _ rfl
  have k90 : ∀ x : Ext y64, x.w.cell? ⟨b43, 1, none⟩ = some (.int .u64 (zU 1)) := fun x => (LU.later x.below).cell 1 _ rfl
  have k91 : ∀ x : Ext y64, x.w.cell? ⟨b43, 2, none⟩ = some (.int .u64 (zU 2)) := fun x => (LU.later x.below).cell 2 _ rfl
  have k92 : ∀ x : Ext y64, x.w.cell? ⟨b43, 3, none⟩ = some (.int .u64 (zU 3)) := fun x => (LU.later x.below).cell 3 _ rfl
  try simp only [List.append]
  refine wp_region_quick (C := Grows y64) (by kernel_rfl) (by kernel_rfl) (by kernel_rfl) (grows_refl y64) ?_
  repeat (go_big_quiet_step (first | (with_reducible exact Ret.at Hox.out _) | (with_reducible exact RetT.at Hlo.out HT _)))
  refine wpQuiet_nil ?_
  rintro _ ⟨x93, rfl⟩
  clear k85 k86 k87 k88 k89 k90 k91 k92
  have LA := LA.later x93.below
  have LP := LP.later x93.below
  have LU := LU.later x93.below
  have LD := LD.later x93.below
  have HT := HT.later x93.below
  have Q := Q.trans (x93.below.mono Q.size)
  obtain ⟨w93, hw93⟩ : ∃ w93, x93.w = w93 := ⟨_, rfl⟩
  rw [hw93] at LA LP LU LD Q HT ⊢
  clear hw93
  have k94 := LA.cell 0 _ rfl
  have k95 := LA.cell 1 _ rfl
  have k96 := LA.cell 2 _ rfl
  have k97 := LA.cell 3 _ rfl
  go_wp2_with fail
  clear k94 k95 k96 k97
  have k98 : ∀ x : Ext w93, x.w.cell? ⟨w.heap.size, 0, none⟩ = some (.int .u64 (zA 0)) := fun x => (LA.later x.below).cell 0 _ rfl
  have k99 : ∀ x : Ext w93, x.w.cell? ⟨w.heap.size, 1, none⟩ = some (.int .u64 (zA 1)) := fun x => (LA.later x.below).cell 1 _ rfl
  have k100 : ∀ x : Ext w93, x.w.cell? ⟨w.heap.size, 2, none⟩ = some (.int .u64 (zA 2)) := fun x => (LA.later x.below).cell 2 _ rfl
  have k101 : ∀ x : Ext w93, x.w.cell? ⟨w.heap.size, 3, none⟩ = some (.int .u64 (zA 3)) := fun x => (LA.later x.below).cell 3 _ rfl
  try simp only [List.append]
  refine wp_region_quick (C := Grows w93) (by kernel_rfl) (by kernel_rfl) (by kernel_rfl) (grows_refl w93) ?_
  repeat (go_big_quiet_step (first | (with_reducible exact Ret.at Ho3.out _) | (with_reducible exact RetT.at Hhi.out HT _)))
  refine wpQuiet_nil ?_
  rintro _ ⟨x102, rfl⟩
  clear k98 k99 k100 k101
  have LA := LA.later x102.below
  have LP := LP.later x102.below
  have LU := LU.later x102.below
  have LD := LD.later x102.below
  have HT := HT.later x102.below
  have Q := Q.trans (x102.below.mono Q.size)
  obtain ⟨w102, hw102⟩ : ∃ w102, x102.w = w102 := ⟨_, rfl⟩
  rw [hw102] at LA LP LU LD Q HT ⊢
  clear hw102
  have k103 := LA.cell 0 _ rfl
  have k104 := LA.cell 1 _ rfl
  have k105 := LA.cell 2 _ rfl
  have k106 := LA.cell 3 _ rfl
  have k107 := LP.cell 0 _ rfl
  have k108 := LP.cell 1 _ rfl
  have k109 := LP.cell 2 _ rfl
  have k110 := LP.cell 3 _ rfl
  have k111 := LU.cell 0 _ rfl
  have k112 := LU.cell 1 _ rfl
  have k113 := LU.cell 2 _ rfl
  have k114 := LU.cell 3 _ rfl
  have k115 := LD.cell 0 _ rfl
  have k116 := LD.cell 1 _ rfl
  have k117 := LD.cell 2 _ rfl
  have k118 := LD.cell 3 _ rfl
  go_wp2_with fail
  clear k103 k104 k105 k106 k107 k108 k109 k110 k111 k112 k113 k114 k115 k116 k117 k118
  have k119 : ∀ x : Ext w102, x.w.cell? ⟨w.heap.size, 0, none⟩ = some (.int .u64 (zA 0)) := fun x => (LA.later x.below).cell 0 _ rfl
  have k120 : ∀ x : Ext w102, x.w.cell? ⟨w.heap.size, 1, none⟩ = some (.int .u64 (zA 1)) := fun x => (LA.later x.below).cell 1 _ rfl
  have k121 : ∀ x : Ext w102, x.w.cell? ⟨w.heap.size, 2, none⟩ = some (.int .u64 (zA 2)) := fun x => (LA.later x.below).cell 2 _ rfl
  have k122 : ∀ x : Ext w102, x.w.cell? ⟨w.heap.size, 3, none⟩ = some (.int .u64 (zA 3)) := fun x => (LA.later x.below).cell 3 _ rfl
  have k123 : ∀ x : Ext w102, x.w.cell? ⟨b2, 0, none⟩ = some (.int .u64 (zP 0)) := fun x => (LP.later x.below).cell 0 _ rfl
  have k124 : ∀ x : Ext w102, x.w.cell? ⟨b2, 1, none⟩ = some (.int .u64 (zP 1)) := fun x => (LP.later x.below).cell 1 _ rfl
  have k125 : ∀ x : Ext w102, x.w.cell? ⟨b2, 2, none⟩ = some (.int .u64 (zP 2)) := fun x => (LP.later x.below).cell 2 _ rfl
  have k126 : ∀ x : Ext w102, x.w.cell? ⟨b2, 3, none⟩ = some (.int .u64 (zP 3)) := fun x => (LP.later x.below).cell 3 _ rfl
  have k127 : ∀ x : Ext w102, x.w.cell? ⟨b43, 0, none⟩ = some (.int .u64 (zU 0)) := fun x => (LU.later x.below).cell 0 _ rfl
  have k128 : ∀ x : Ext w102, x.w.cell? ⟨b43, 1, none⟩ = some (.int .u64 (zU 1)) := fun x => (LU.later x.below).cell 1 _ rfl
  have k129 : ∀ x : Ext w102, x.w.cell? ⟨b43, 2, none⟩ = some (.int .u64 (zU 2)) := fun x => (LU.later x.below).cell 2 _ rfl
  have k130 : ∀ x : Ext w102, x.w.cell? ⟨b43, 3, none⟩ = some (.int .u64 (zU 3)) := fun x => (LU.later x.below).cell 3 _ rfl
  have k131 : ∀ x : Ext w102, x.w.cell? ⟨b64, 0, none⟩ = some (.int .u64 (zD 0)) := fun x => (LD.later x.below).cell 0 _ rfl
  have k132 : ∀ x : Ext w102, x.w.cell? ⟨b64, 1, none⟩ = some (.int .u64 (zD 1)) := fun x => (LD.later x.below).cell 1 _ rfl
  have k133 : ∀ x : Ext w102, x.w.cell? ⟨b64, 2, none⟩ = some (.int .u64 (zD 2)) := fun x => (LD.later x.below).cell 2 _ rfl
  have k134 : ∀ x : Ext w102, x.w.cell? ⟨b64, 3, none⟩ = some (.int .u64 (zD 3)) := fun x => (LD.later x.below).cell 3 _ rfl
  clear LA LP LU LD
  have HQ := Lib.hid Q
  clear Q
  try simp only [List.append]
  refine wp_region_quick (C := Grows w102) (by kernel_rfl) (by kernel_rfl) (by kernel_rfl) (grows_refl w102) ?_
  repeat (go_big_quiet_step (first | (with_reducible exact Ret.at Hmu.out _) | (with_reducible exact Ret.at Hdi.out _) | (with_reducible exact Ret.at Hoy.out _) | (with_reducible exact RetT.at Hs3.out HT _) | (with_reducible exact Ret.at Hoz.out _) | (with_reducible exact RetT.at Hs4.out HT _) | (with_reducible exact RetT.at Hs5.out HT _) | (with_reducible exact RetT.at Hs6.out HT _) | (with_reducible exact RetT.at Ha1.out HT _) | (with_reducible exact RetT.at Ha2.out HT _) | (with_reducible exact RetT.at Ha3.out HT _) | (with_reducible exact Ret.at Hox.out _)))
  refine wpQuiet_nil ?_
  rintro _ ⟨x, rfl⟩
  go_wp2
  go_ret
  exact ⟨rfl, HQ.out.trans (x.below.mono HQ.out.size)⟩
end Go.Proofs.YtnlcllhjhbaigaaDoor
