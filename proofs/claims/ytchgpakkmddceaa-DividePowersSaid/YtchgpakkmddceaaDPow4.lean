/- Powers. -/
import Derived.Test.YtchgpakkmddceaaDivAwake
namespace Go.Proofs.Ytchgpakkmddceaa
open Go Go.RowKit
attribute [local go_sem] Oper.semAt_some Grows wide_fn eq4

set_option maxRecDepth 100000 in
set_option maxHeartbeats 4000000 in
theorem powers_walk4 (x y m n r v : Int) (zA zX zY zT zS zO zP zQ zR zM : Nat → Int) (hx : 0 ≤ x ∧ x < 400) (hy : 0 ≤ y ∧ y < 400) (hw : ¬ x < 256) (g1 : Ret Try.prog 28 #[.int .i64 m, .int .i64 400] (.int .i64 x)) (g2 : Ret Try.prog 28 #[.int .i64 n, .int .i64 400] (.int .i64 y)) (o1 : Ret Try.prog 27 #[.int .i64 x] (.agg #[.int .u64 (zX 0), .int .u64 (zX 1), .int .u64 (zX 2), .int .u64 (zX 3)])) (o2 : Ret Try.prog 27 #[.int .i64 y] (.agg #[.int .u64 (zY 0), .int .u64 (zY 1), .int .u64 (zY 2), .int .u64 (zY 3)])) (o3 : Ret Try.prog 27 #[.int .i64 2] (.agg #[.int .u64 (zT 0), .int .u64 (zT 1), .int .u64 (zT 2), .int .u64 (zT 3)])) (o4 : Ret Try.prog 27 #[.int .i64 (x + y)] (.agg #[.int .u64 (zS 0), .int .u64 (zS 1), .int .u64 (zS 2), .int .u64 (zS 3)])) (o5 : Ret Try.prog 27 #[.int .i64 1] (.agg #[.int .u64 (zO 0), .int .u64 (zO 1), .int .u64 (zO 2), .int .u64 (zO 3)])) (c1 : Ret Try.prog 22 #[.agg #[.int .u64 (zA 0), .int .u64 (zA 1), .int .u64 (zA 2), .int .u64 (zA 3)], .agg #[.int .u64 (zX 0), .int .u64 (zX 1), .int .u64 (zX 2), .int .u64 (zX 3)]] (.agg #[.int .u64 (zP 0), .int .u64 (zP 1), .int .u64 (zP 2), .int .u64 (zP 3)])) (c2 : Ret Try.prog 22 #[.agg #[.int .u64 (zA 0), .int .u64 (zA 1), .int .u64 (zA 2), .int .u64 (zA 3)], .agg #[.int .u64 (zY 0), .int .u64 (zY 1), .int .u64 (zY 2), .int .u64 (zY 3)]] (.agg #[.int .u64 (zQ 0), .int .u64 (zQ 1), .int .u64 (zQ 2), .int .u64 (zQ 3)])) (c3 : Ret Try.prog 22 #[.agg #[.int .u64 (zT 0), .int .u64 (zT 1), .int .u64 (zT 2), .int .u64 (zT 3)], .agg #[.int .u64 (zX 0), .int .u64 (zX 1), .int .u64 (zX 2), .int .u64 (zX 3)]] (.agg #[.int .u64 0, .int .u64 0, .int .u64 0, .int .u64 0])) (c4 : Ret Try.prog 22 #[.agg #[.int .u64 (zA 0), .int .u64 (zA 1), .int .u64 (zA 2), .int .u64 (zA 3)], .agg #[.int .u64 (zS 0), .int .u64 (zS 1), .int .u64 (zS 2), .int .u64 (zS 3)]] (.agg #[.int .u64 (zR 0), .int .u64 (zR 1), .int .u64 (zR 2), .int .u64 (zR 3)])) (c5 : Ret Try.prog 25 #[.agg #[.int .u64 (zP 0), .int .u64 (zP 1), .int .u64 (zP 2), .int .u64 (zP 3)], .agg #[.int .u64 (zQ 0), .int .u64 (zQ 1), .int .u64 (zQ 2), .int .u64 (zQ 3)]] (.agg #[.int .u64 (zR 0), .int .u64 (zR 1), .int .u64 (zR 2), .int .u64 (zR 3)])) (c6 : Ret Try.prog 22 #[.agg #[.int .u64 (zO 0), .int .u64 (zO 1), .int .u64 (zO 2), .int .u64 (zO 3)], .agg #[.int .u64 (zA 0), .int .u64 (zA 1), .int .u64 (zA 2), .int .u64 (zA 3)]] (.agg #[.int .u64 (zO 0), .int .u64 (zO 1), .int .u64 (zO 2), .int .u64 (zO 3)])) (c7 : Ret Try.prog 22 #[.agg #[.int .u64 (zA 0), .int .u64 (zA 1), .int .u64 (zA 2), .int .u64 (zA 3)], .agg #[.int .u64 (zO 0), .int .u64 (zO 1), .int .u64 (zO 2), .int .u64 (zO 3)]] (.agg #[.int .u64 (zA 0), .int .u64 (zA 1), .int .u64 (zA 2), .int .u64 (zA 3)])) (c8 : Ret Try.prog 22 #[.agg #[.int .u64 (zP 0), .int .u64 (zP 1), .int .u64 (zP 2), .int .u64 (zP 3)], .agg #[.int .u64 (zT 0), .int .u64 (zT 1), .int .u64 (zT 2), .int .u64 (zT 3)]] (.agg #[.int .u64 (zM 0), .int .u64 (zM 1), .int .u64 (zM 2), .int .u64 (zM 3)])) (c9 : Ret Try.prog 25 #[.agg #[.int .u64 (zP 0), .int .u64 (zP 1), .int .u64 (zP 2), .int .u64 (zP 3)], .agg #[.int .u64 (zP 0), .int .u64 (zP 1), .int .u64 (zP 2), .int .u64 (zP 3)]] (.agg #[.int .u64 (zM 0), .int .u64 (zM 1), .int .u64 (zM 2), .int .u64 (zM 3)])) :
    Ret Try.prog 6 #[.agg #[.int .u64 (zA 0), .int .u64 (zA 1), .int .u64 (zA 2), .int .u64 (zA 3)], .int .i64 m, .int .i64 n] (.bool true) := by
  intro w
  have k0 := awake_ret
  obtain ⟨hx1, hx2⟩ := hx
  obtain ⟨hy1, hy2⟩ := hy
  have Hg1 := Lib.hid g1
  have Hg2 := Lib.hid g2
  have Ho1 := Lib.hid o1
  have Ho2 := Lib.hid o2
  have Ho3 := Lib.hid o3
  have Ho4 := Lib.hid o4
  have Ho5 := Lib.hid o5
  have Hc1 := Lib.hid c1
  have Hc2 := Lib.hid c2
  have Hc3 := Lib.hid c3
  have Hc4 := Lib.hid c4
  have Hc5 := Lib.hid c5
  have Hc6 := Lib.hid c6
  have Hc7 := Lib.hid c7
  have Hc8 := Lib.hid c8
  have Hc9 := Lib.hid c9
  have Hk0 := Lib.hid k0
  clear g1 g2 o1 o2 o3 o4 o5 c1 c2 c3 c4 c5 c6 c7 c8 c9 k0
  go_enter Try.func6, Try.ntmps6
  have LA := Has.new w 24 #[.int .u64 (zA 0), .int .u64 (zA 1), .int .u64 (zA 2), .int .u64 (zA 3)]
  have k1 := LA.cell 0 _ rfl
  have k2 := LA.cell 1 _ rfl
  have k3 := LA.cell 2 _ rfl
  have k4 := LA.cell 3 _ rfl
  have Q := (Below.refl w.heap.size w)
  have Q := Q.alloc Q.size (.cells #[.int .u64 (zA 0), .int .u64 (zA 1), .int .u64 (zA 2), .int .u64 (zA 3)] 24)
  go_wp2_with fail
  clear k1 k2 k3 k4
  obtain ⟨W1, hW1⟩ : ∃ W1, (w.alloc (.cells #[.int .u64 (zA 0), .int .u64 (zA 1), .int .u64 (zA 2), .int .u64 (zA 3)] 24)) = W1 := ⟨_, rfl⟩
  rw [hW1] at LA Q ⊢
  clear hW1
  refine (Hk0.out _).mono ?_
  rintro e v5 ⟨rfl, q⟩
  have LA := LA.later q
  have Q := Q.trans (q.mono Q.size)
  clear q
  have k6 := LA.cell 0 _ rfl
  have k7 := LA.cell 1 _ rfl
  have k8 := LA.cell 2 _ rfl
  have k9 := LA.cell 3 _ rfl
  go_wp2_with fail
  clear k6 k7 k8 k9
  refine (Hg1.out _).mono ?_
  rintro e v10 ⟨rfl, q⟩
  have LA := LA.later q
  have Q := Q.trans (q.mono Q.size)
  clear q
  have k11 := LA.cell 0 _ rfl
  have k12 := LA.cell 1 _ rfl
  have k13 := LA.cell 2 _ rfl
  have k14 := LA.cell 3 _ rfl
  go_wp2_with fail
  clear k11 k12 k13 k14
  refine (Hg2.out _).mono ?_
  rintro e v15 ⟨rfl, q⟩
  have LA := LA.later q
  have Q := Q.trans (q.mono Q.size)
  clear q
  have k16 := LA.cell 0 _ rfl
  have k17 := LA.cell 1 _ rfl
  have k18 := LA.cell 2 _ rfl
  have k19 := LA.cell 3 _ rfl
  go_wp2_with fail
  clear k16 k17 k18 k19
  refine wp_region_ghost [some (.agg #[.int .u64 (zA 0), .int .u64 (zA 1), .int .u64 (zA 2), .int .u64 (zA 3)]), some (.int .i64 x), some (.agg #[.int .u64 (zX 0), .int .u64 (zX 1), .int .u64 (zX 2), .int .u64 (zX 3)]), some (.agg #[.int .u64 (zP 0), .int .u64 (zP 1), .int .u64 (zP 2), .int .u64 (zP 3)]), none, none] [[], [], [1], [0, 1, 2], [], [0, 1, 2, 3, 4]] (fun f g w' => Below v15.heap.size v15 w' ∧ (f 4 = true → ∃ B, g 4 = .pointer (some ⟨B, 0, none⟩) ∧ v15.heap.size ≤ B ∧ Has w' B 24 (cellsIf (f 5) #[.int .u64 (zP 0), .int .u64 (zP 1), .int .u64 (zP 2), .int .u64 (zP 3)] #[.int .u64 0, .int .u64 0, .int .u64 0, .int .u64 0])))
    (by kernel_rfl) (by kernel_rfl) (by kernel_rfl) ?_ ?_ ?_ ?_
  · rintro f g wa wb ⟨h1, h2⟩ hb
    exact ⟨h1.trans (hb.mono h1.size), fun h => let ⟨B, e, hB, hL⟩ := h2 h; ⟨B, e, hB, hL.later hb⟩⟩
  · intro f f' g g' wa h
    have ha := h 4 rfl
    have hs := h 5 rfl
    simp only [ha.1, ha.2, hs.1]
    exact id
  · exact ⟨(Below.refl _ _).drew, by simp⟩
  rintro f g y20 ⟨h1, h2⟩ Dn
  have LA := LA.later h1
  have k21 := LA.cell 0 _ rfl
  have k22 := LA.cell 1 _ rfl
  have k23 := LA.cell 2 _ rfl
  have k24 := LA.cell 3 _ rfl
  refine GW.known _ rfl (fun hd hf => ?_) ?_
  · go_wp2
    exact ⟨rfl, rfl, Below.refl _ _⟩
  simp only [Act.put, List.setIfInBounds_toArray, List.set_cons_succ, List.set_cons_zero]
  refine GW.known _ rfl (fun hd hf => ?_) ?_
  · go_wp2
    exact ⟨rfl, rfl, Below.refl _ _⟩
  simp only [Act.put, List.setIfInBounds_toArray, List.set_cons_succ, List.set_cons_zero]
  refine GW.known _ rfl (fun hd hf => ?_) ?_
  · go_wp2_with fail
    refine (Ho1.out _).mono ?_
    rintro e u ⟨rfl, hb⟩
    go_wp2
    exact ⟨rfl, rfl, hb⟩
  simp only [Act.put, List.setIfInBounds_toArray, List.set_cons_succ, List.set_cons_zero]
  refine GW.known _ rfl (fun hd hf => ?_) ?_
  · go_wp2_with fail
    refine (Hc1.out _).mono ?_
    rintro e u ⟨rfl, hb⟩
    go_wp2
    exact ⟨rfl, rfl, hb⟩
  simp only [Act.put, List.setIfInBounds_toArray, List.set_cons_succ, List.set_cons_zero]
  refine GW.open rfl (fun hd hf => ?_) ?_
  · have fs : f 5 = false := by
      cases h : f 5 with
      | false => rfl
      | true => have := Dn 5 h 4 (by decide); rw [hf] at this; cases this
    have fu : upd f 4 true 5 = false := (upd_ne f true (show (5 : Nat) ≠ 4 by decide)).trans fs
    go_wp2
    refine ⟨rfl, h1.alloc h1.size _, fun _ => ⟨_, rfl, h1.size, ?_⟩⟩
    show Has _ _ 24 (cellsIf (upd f 4 true 5) #[.int .u64 (zP 0), .int .u64 (zP 1), .int .u64 (zP 2), .int .u64 (zP 3)] #[.int .u64 0, .int .u64 0, .int .u64 0, .int .u64 0])
    rw [fu, cellsIf_false]
    exact Has.new _ _ _
  simp only [Act.put, List.setIfInBounds_toArray, List.set_cons_succ, List.set_cons_zero]
  refine GW.open rfl (fun hd hf => ?_) ?_
  · obtain ⟨B, eB, hB, LB⟩ := h2 (hd 4 (by decide))
    rw [hf, cellsIf_false] at LB
    rw [eB]
    have c0 := LB.cell 0 _ rfl
    have z0 := LB.frozen 0
    have c1 := LB.cell 1 _ rfl
    have z1 := LB.frozen 1
    have c2 := LB.cell 2 _ rfl
    have z2 := LB.frozen 2
    have c3 := LB.cell 3 _ rfl
    have z3 := LB.frozen 3
    go_wp2
    refine ⟨rfl, ((((h1.setCell (p := ⟨B, 0, none⟩) hB (.int .u64 (zP 0))).setCell (p := ⟨B, 1, none⟩) hB (.int .u64 (zP 1))).setCell (p := ⟨B, 2, none⟩) hB (.int .u64 (zP 2))).setCell (p := ⟨B, 3, none⟩) hB (.int .u64 (zP 3))), fun _ => ⟨B, eB, hB, ?_⟩⟩
    show Has _ B 24 (cellsIf (upd f 5 true 5) #[.int .u64 (zP 0), .int .u64 (zP 1), .int .u64 (zP 2), .int .u64 (zP 3)] #[.int .u64 0, .int .u64 0, .int .u64 0, .int .u64 0])
    rw [upd_self, cellsIf_true]
    exact ((((LB.set 0 (.int .u64 (zP 0))).set 1 (.int .u64 (zP 1))).set 2 (.int .u64 (zP 2))).set 3 (.int .u64 (zP 3)))
  simp only [Act.put, List.setIfInBounds_toArray, List.set_cons_succ, List.set_cons_zero]
  refine GW.nil (fun hall => ?_)
  obtain ⟨b20, eB, hB, LP⟩ := h2 (hall 4 (by omega))
  rw [hall 5 (by omega), cellsIf_true] at LP
  have Q := Q.trans (h1.mono Q.size)
  clear h2 Dn hall k21 k22 k23 k24
  rw [eB]
  clear eB hB h1
  have k25 := LA.cell 0 _ rfl
  have k26 := LA.cell 1 _ rfl
  have k27 := LA.cell 2 _ rfl
  have k28 := LA.cell 3 _ rfl
  have k29 := LP.cell 0 _ rfl
  have k30 := LP.cell 1 _ rfl
  have k31 := LP.cell 2 _ rfl
  have k32 := LP.cell 3 _ rfl
  go_wp2_with fail
  clear k25 k26 k27 k28 k29 k30 k31 k32
  refine wp_region_ghost [some (.agg #[.int .u64 (zA 0), .int .u64 (zA 1), .int .u64 (zA 2), .int .u64 (zA 3)]), some (.int .i64 y), some (.agg #[.int .u64 (zY 0), .int .u64 (zY 1), .int .u64 (zY 2), .int .u64 (zY 3)]), some (.agg #[.int .u64 (zQ 0), .int .u64 (zQ 1), .int .u64 (zQ 2), .int .u64 (zQ 3)]), none, none] [[], [], [1], [0, 1, 2], [], [0, 1, 2, 3, 4]] (fun f g w' => Below y20.heap.size y20 w' ∧ (f 4 = true → ∃ B, g 4 = .pointer (some ⟨B, 0, none⟩) ∧ y20.heap.size ≤ B ∧ Has w' B 24 (cellsIf (f 5) #[.int .u64 (zQ 0), .int .u64 (zQ 1), .int .u64 (zQ 2), .int .u64 (zQ 3)] #[.int .u64 0, .int .u64 0, .int .u64 0, .int .u64 0])))
    (by kernel_rfl) (by kernel_rfl) (by kernel_rfl) ?_ ?_ ?_ ?_
  · rintro f g wa wb ⟨h1, h2⟩ hb
    exact ⟨h1.trans (hb.mono h1.size), fun h => let ⟨B, e, hB, hL⟩ := h2 h; ⟨B, e, hB, hL.later hb⟩⟩
  · intro f f' g g' wa h
    have ha := h 4 rfl
    have hs := h 5 rfl
    simp only [ha.1, ha.2, hs.1]
    exact id
  · exact ⟨(Below.refl _ _).drew, by simp⟩
  rintro f g y33 ⟨h1, h2⟩ Dn
  have LA := LA.later h1
  have LP := LP.later h1
  have k34 := LA.cell 0 _ rfl
  have k35 := LA.cell 1 _ rfl
  have k36 := LA.cell 2 _ rfl
  have k37 := LA.cell 3 _ rfl
  have k38 := LP.cell 0 _ rfl
  have k39 := LP.cell 1 _ rfl
  have k40 := LP.cell 2 _ rfl
  have k41 := LP.cell 3 _ rfl
  refine GW.known _ rfl (fun hd hf => ?_) ?_
  · go_wp2
    exact ⟨rfl, rfl, Below.refl _ _⟩
  simp only [Act.put, List.setIfInBounds_toArray, List.set_cons_succ, List.set_cons_zero]
  refine GW.known _ rfl (fun hd hf => ?_) ?_
  · go_wp2
    exact ⟨rfl, rfl, Below.refl _ _⟩
  simp only [Act.put, List.setIfInBounds_toArray, List.set_cons_succ, List.set_cons_zero]
  refine GW.known _ rfl (fun hd hf => ?_) ?_
  · go_wp2_with fail
    refine (Ho2.out _).mono ?_
    rintro e u ⟨rfl, hb⟩
    go_wp2
    exact ⟨rfl, rfl, hb⟩
  simp only [Act.put, List.setIfInBounds_toArray, List.set_cons_succ, List.set_cons_zero]
  refine GW.known _ rfl (fun hd hf => ?_) ?_
  · go_wp2_with fail
    refine (Hc2.out _).mono ?_
    rintro e u ⟨rfl, hb⟩
    go_wp2
    exact ⟨rfl, rfl, hb⟩
  simp only [Act.put, List.setIfInBounds_toArray, List.set_cons_succ, List.set_cons_zero]
  refine GW.open rfl (fun hd hf => ?_) ?_
  · have fs : f 5 = false := by
      cases h : f 5 with
      | false => rfl
      | true => have := Dn 5 h 4 (by decide); rw [hf] at this; cases this
    have fu : upd f 4 true 5 = false := (upd_ne f true (show (5 : Nat) ≠ 4 by decide)).trans fs
    go_wp2
    refine ⟨rfl, h1.alloc h1.size _, fun _ => ⟨_, rfl, h1.size, ?_⟩⟩
    show Has _ _ 24 (cellsIf (upd f 4 true 5) #[.int .u64 (zQ 0), .int .u64 (zQ 1), .int .u64 (zQ 2), .int .u64 (zQ 3)] #[.int .u64 0, .int .u64 0, .int .u64 0, .int .u64 0])
    rw [fu, cellsIf_false]
    exact Has.new _ _ _
  simp only [Act.put, List.setIfInBounds_toArray, List.set_cons_succ, List.set_cons_zero]
  refine GW.open rfl (fun hd hf => ?_) ?_
  · obtain ⟨B, eB, hB, LB⟩ := h2 (hd 4 (by decide))
    rw [hf, cellsIf_false] at LB
    rw [eB]
    have c0 := LB.cell 0 _ rfl
    have z0 := LB.frozen 0
    have c1 := LB.cell 1 _ rfl
    have z1 := LB.frozen 1
    have c2 := LB.cell 2 _ rfl
    have z2 := LB.frozen 2
    have c3 := LB.cell 3 _ rfl
    have z3 := LB.frozen 3
    go_wp2
    refine ⟨rfl, ((((h1.setCell (p := ⟨B, 0, none⟩) hB (.int .u64 (zQ 0))).setCell (p := ⟨B, 1, none⟩) hB (.int .u64 (zQ 1))).setCell (p := ⟨B, 2, none⟩) hB (.int .u64 (zQ 2))).setCell (p := ⟨B, 3, none⟩) hB (.int .u64 (zQ 3))), fun _ => ⟨B, eB, hB, ?_⟩⟩
    show Has _ B 24 (cellsIf (upd f 5 true 5) #[.int .u64 (zQ 0), .int .u64 (zQ 1), .int .u64 (zQ 2), .int .u64 (zQ 3)] #[.int .u64 0, .int .u64 0, .int .u64 0, .int .u64 0])
    rw [upd_self, cellsIf_true]
    exact ((((LB.set 0 (.int .u64 (zQ 0))).set 1 (.int .u64 (zQ 1))).set 2 (.int .u64 (zQ 2))).set 3 (.int .u64 (zQ 3)))
  simp only [Act.put, List.setIfInBounds_toArray, List.set_cons_succ, List.set_cons_zero]
  refine GW.nil (fun hall => ?_)
  obtain ⟨b33, eB, hB, LQ⟩ := h2 (hall 4 (by omega))
  rw [hall 5 (by omega), cellsIf_true] at LQ
  have Q := Q.trans (h1.mono Q.size)
  clear h2 Dn hall k34 k35 k36 k37 k38 k39 k40 k41
  rw [eB]
  clear eB hB h1
  have k42 := LA.cell 0 _ rfl
  have k43 := LA.cell 1 _ rfl
  have k44 := LA.cell 2 _ rfl
  have k45 := LA.cell 3 _ rfl
  have k46 := LP.cell 0 _ rfl
  have k47 := LP.cell 1 _ rfl
  have k48 := LP.cell 2 _ rfl
  have k49 := LP.cell 3 _ rfl
  have k50 := LQ.cell 0 _ rfl
  have k51 := LQ.cell 1 _ rfl
  have k52 := LQ.cell 2 _ rfl
  have k53 := LQ.cell 3 _ rfl
  go_wp2_with fail
  clear k42 k43 k44 k45 k46 k47 k48 k49 k50 k51 k52 k53
  refine (Ho3.out _).mono ?_
  rintro e v54 ⟨rfl, q⟩
  have LA := LA.later q
  have LP := LP.later q
  have LQ := LQ.later q
  have Q := Q.trans (q.mono Q.size)
  clear q
  have k55 := LA.cell 0 _ rfl
  have k56 := LA.cell 1 _ rfl
  have k57 := LA.cell 2 _ rfl
  have k58 := LA.cell 3 _ rfl
  have k59 := LP.cell 0 _ rfl
  have k60 := LP.cell 1 _ rfl
  have k61 := LP.cell 2 _ rfl
  have k62 := LP.cell 3 _ rfl
  have k63 := LQ.cell 0 _ rfl
  have k64 := LQ.cell 1 _ rfl
  have k65 := LQ.cell 2 _ rfl
  have k66 := LQ.cell 3 _ rfl
  go_wp2_with fail
  clear k55 k56 k57 k58 k59 k60 k61 k62 k63 k64 k65 k66
  refine (Ho1.out _).mono ?_
  rintro e v67 ⟨rfl, q⟩
  have LA := LA.later q
  have LP := LP.later q
  have LQ := LQ.later q
  have Q := Q.trans (q.mono Q.size)
  clear q
  have k68 := LA.cell 0 _ rfl
  have k69 := LA.cell 1 _ rfl
  have k70 := LA.cell 2 _ rfl
  have k71 := LA.cell 3 _ rfl
  have k72 := LP.cell 0 _ rfl
  have k73 := LP.cell 1 _ rfl
  have k74 := LP.cell 2 _ rfl
  have k75 := LP.cell 3 _ rfl
  have k76 := LQ.cell 0 _ rfl
  have k77 := LQ.cell 1 _ rfl
  have k78 := LQ.cell 2 _ rfl
  have k79 := LQ.cell 3 _ rfl
  go_wp2_with fail
  clear k68 k69 k70 k71 k72 k73 k74 k75 k76 k77 k78 k79
  refine (Hc3.out _).mono ?_
  rintro e v80 ⟨rfl, q⟩
  have LA := LA.later q
  have LP := LP.later q
  have LQ := LQ.later q
  have Q := Q.trans (q.mono Q.size)
  clear q
  have k81 := LA.cell 0 _ rfl
  have k82 := LA.cell 1 _ rfl
  have k83 := LA.cell 2 _ rfl
  have k84 := LA.cell 3 _ rfl
  have k85 := LP.cell 0 _ rfl
  have k86 := LP.cell 1 _ rfl
  have k87 := LP.cell 2 _ rfl
  have k88 := LP.cell 3 _ rfl
  have k89 := LQ.cell 0 _ rfl
  have k90 := LQ.cell 1 _ rfl
  have k91 := LQ.cell 2 _ rfl
  have k92 := LQ.cell 3 _ rfl
  have LA := LA.alloc (.cells #[.int .u64 0, .int .u64 0, .int .u64 0, .int .u64 0] 24)
  have LP := LP.alloc (.cells #[.int .u64 0, .int .u64 0, .int .u64 0, .int .u64 0] 24)
  have LQ := LQ.alloc (.cells #[.int .u64 0, .int .u64 0, .int .u64 0, .int .u64 0] 24)
  have LT := Has.new v80 24 #[.int .u64 0, .int .u64 0, .int .u64 0, .int .u64 0]
  have k93 := LA.cell 0 _ rfl
  have k94 := LA.cell 1 _ rfl
  have k95 := LA.cell 2 _ rfl
  have k96 := LA.cell 3 _ rfl
  have k97 := LP.cell 0 _ rfl
  have k98 := LP.cell 1 _ rfl
  have k99 := LP.cell 2 _ rfl
  have k100 := LP.cell 3 _ rfl
  have k101 := LQ.cell 0 _ rfl
  have k102 := LQ.cell 1 _ rfl
  have k103 := LQ.cell 2 _ rfl
  have k104 := LQ.cell 3 _ rfl
  have k105 := LT.cell 0 _ rfl
  have k106 := LT.cell 1 _ rfl
  have k107 := LT.cell 2 _ rfl
  have k108 := LT.cell 3 _ rfl
  have LA := LA.alloc (.cells #[.int .u64 0, .int .u64 0, .int .u64 0, .int .u64 0] 24)
  have LP := LP.alloc (.cells #[.int .u64 0, .int .u64 0, .int .u64 0, .int .u64 0] 24)
  have LQ := LQ.alloc (.cells #[.int .u64 0, .int .u64 0, .int .u64 0, .int .u64 0] 24)
  have LT := LT.alloc (.cells #[.int .u64 0, .int .u64 0, .int .u64 0, .int .u64 0] 24)
  have LW := Has.new (v80.alloc (.cells #[.int .u64 0, .int .u64 0, .int .u64 0, .int .u64 0] 24)) 24 #[.int .u64 0, .int .u64 0, .int .u64 0, .int .u64 0]
  simp only [World.size_alloc] at LW
  have k109 := LA.cell 0 _ rfl
  have k110 := LA.cell 1 _ rfl
  have k111 := LA.cell 2 _ rfl
  have k112 := LA.cell 3 _ rfl
  have k113 := LP.cell 0 _ rfl
  have k114 := LP.cell 1 _ rfl
  have k115 := LP.cell 2 _ rfl
  have k116 := LP.cell 3 _ rfl
  have k117 := LQ.cell 0 _ rfl
  have k118 := LQ.cell 1 _ rfl
  have k119 := LQ.cell 2 _ rfl
  have k120 := LQ.cell 3 _ rfl
  have k121 := LT.cell 0 _ rfl
  have k122 := LT.cell 1 _ rfl
  have k123 := LT.cell 2 _ rfl
  have k124 := LT.cell 3 _ rfl
  have k125 := LW.cell 0 _ rfl
  have k126 := LW.cell 1 _ rfl
  have k127 := LW.cell 2 _ rfl
  have k128 := LW.cell 3 _ rfl
  have Q := Q.alloc Q.size (.cells #[.int .u64 0, .int .u64 0, .int .u64 0, .int .u64 0] 24)
  have Q := Q.alloc Q.size (.cells #[.int .u64 0, .int .u64 0, .int .u64 0, .int .u64 0] 24)
  go_wp2_with fail
  clear k81 k82 k83 k84 k85 k86 k87 k88 k89 k90 k91 k92 k93 k94 k95 k96 k97 k98 k99 k100 k101 k102 k103 k104 k105 k106 k107 k108 k109 k110 k111 k112 k113 k114 k115 k116 k117 k118 k119 k120 k121 k122 k123 k124 k125 k126 k127 k128
  obtain ⟨W2, hW2⟩ : ∃ W2, ((v80.alloc (.cells #[.int .u64 0, .int .u64 0, .int .u64 0, .int .u64 0] 24)).alloc (.cells #[.int .u64 0, .int .u64 0, .int .u64 0, .int .u64 0] 24)) = W2 := ⟨_, rfl⟩
  rw [hW2] at LA LP LQ LT LW Q ⊢
  clear hW2
  generalize v80.heap.size = b2 at *
  have k129 : ∀ x : Ext W2, x.w.cell? ⟨w.heap.size, 0, none⟩ = some (.int .u64 (zA 0)) := fun x => (LA.later x.below).cell 0 _ rfl
  have k130 : ∀ x : Ext W2, x.w.cell? ⟨w.heap.size, 1, none⟩ = some (.int .u64 (zA 1)) := fun x => (LA.later x.below).cell 1 _ rfl
  have k131 : ∀ x : Ext W2, x.w.cell? ⟨w.heap.size, 2, none⟩ = some (.int .u64 (zA 2)) := fun x => (LA.later x.below).cell 2 _ rfl
  have k132 : ∀ x : Ext W2, x.w.cell? ⟨w.heap.size, 3, none⟩ = some (.int .u64 (zA 3)) := fun x => (LA.later x.below).cell 3 _ rfl
  have k133 : ∀ x : Ext W2, x.w.cell? ⟨b20, 0, none⟩ = some (.int .u64 (zP 0)) := fun x => (LP.later x.below).cell 0 _ rfl
  have k134 : ∀ x : Ext W2, x.w.cell? ⟨b20, 1, none⟩ = some (.int .u64 (zP 1)) := fun x => (LP.later x.below).cell 1 _ rfl
  have k135 : ∀ x : Ext W2, x.w.cell? ⟨b20, 2, none⟩ = some (.int .u64 (zP 2)) := fun x => (LP.later x.below).cell 2 _ rfl
  have k136 : ∀ x : Ext W2, x.w.cell? ⟨b20, 3, none⟩ = some (.int .u64 (zP 3)) := fun x => (LP.later x.below).cell 3 _ rfl
  have k137 : ∀ x : Ext W2, x.w.cell? ⟨b33, 0, none⟩ = some (.int .u64 (zQ 0)) := fun x => (LQ.later x.below).cell 0 _ rfl
  have k138 : ∀ x : Ext W2, x.w.cell? ⟨b33, 1, none⟩ = some (.int .u64 (zQ 1)) := fun x => (LQ.later x.below).cell 1 _ rfl
  have k139 : ∀ x : Ext W2, x.w.cell? ⟨b33, 2, none⟩ = some (.int .u64 (zQ 2)) := fun x => (LQ.later x.below).cell 2 _ rfl
  have k140 : ∀ x : Ext W2, x.w.cell? ⟨b33, 3, none⟩ = some (.int .u64 (zQ 3)) := fun x => (LQ.later x.below).cell 3 _ rfl
  have k141 : ∀ x : Ext W2, x.w.cell? ⟨b2, 0, none⟩ = some (.int .u64 0) := fun x => (LT.later x.below).cell 0 _ rfl
  have k142 : ∀ x : Ext W2, x.w.cell? ⟨b2, 1, none⟩ = some (.int .u64 0) := fun x => (LT.later x.below).cell 1 _ rfl
  have k143 : ∀ x : Ext W2, x.w.cell? ⟨b2, 2, none⟩ = some (.int .u64 0) := fun x => (LT.later x.below).cell 2 _ rfl
  have k144 : ∀ x : Ext W2, x.w.cell? ⟨b2, 3, none⟩ = some (.int .u64 0) := fun x => (LT.later x.below).cell 3 _ rfl
  have k145 : ∀ x : Ext W2, x.w.cell? ⟨b2 + 1, 0, none⟩ = some (.int .u64 0) := fun x => (LW.later x.below).cell 0 _ rfl
  have k146 : ∀ x : Ext W2, x.w.cell? ⟨b2 + 1, 1, none⟩ = some (.int .u64 0) := fun x => (LW.later x.below).cell 1 _ rfl
  have k147 : ∀ x : Ext W2, x.w.cell? ⟨b2 + 1, 2, none⟩ = some (.int .u64 0) := fun x => (LW.later x.below).cell 2 _ rfl
  have k148 : ∀ x : Ext W2, x.w.cell? ⟨b2 + 1, 3, none⟩ = some (.int .u64 0) := fun x => (LW.later x.below).cell 3 _ rfl
  clear LA LP LQ LT LW
  have HQ := Lib.hid Q
  clear Q
  try simp only [List.append]
  refine wp_region_quick (C := Grows W2) (by kernel_rfl) (by kernel_rfl) (by kernel_rfl) (grows_refl W2) ?_
  repeat (go_big_quiet_step (first | (with_reducible exact Ret.at Ho1.out _) | (with_reducible exact Ret.at Ho2.out _) | (with_reducible exact Ret.at Ho3.out _) | (with_reducible exact Ret.at Ho4.out _) | (with_reducible exact Ret.at Ho5.out _) | (with_reducible exact Ret.at Hc4.out _) | (with_reducible exact Ret.at Hc5.out _) | (with_reducible exact Ret.at Hc6.out _) | (with_reducible exact Ret.at Hc7.out _) | (with_reducible exact Ret.at Hc8.out _) | (with_reducible exact Ret.at Hc9.out _)))
  refine wpQuiet_nil ?_
  rintro _ ⟨x, rfl⟩
  go_wp2
  go_ret
  exact ⟨rfl, HQ.out.trans (x.below.mono HQ.out.size)⟩
end Go.Proofs.Ytchgpakkmddceaa
