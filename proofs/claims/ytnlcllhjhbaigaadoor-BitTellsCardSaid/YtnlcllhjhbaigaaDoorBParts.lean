/- A word is its bits, shifted one by one: the walk. -/
import Derived.Test.YtnlcllhjhbaigaaDoorBitAwake
import Derived.Test.YtnlcllhjhbaigaaDoorGhost
namespace Go.Proofs.YtnlcllhjhbaigaaDoor
open Go Go.RowKit
attribute [local go_sem] Oper.semAt_some Grows wide_fn eq4

set_option maxRecDepth 100000 in
set_option maxHeartbeats 4000000 in
theorem parts_walk (za : Nat → Int) (sh up sm : Nat → Nat → Int) (t : Nat → Int) (ht : ∀ k : Nat, t k = 0 ∨ t k = 1) (h1 : ∀ k : Nat, k < 256 → RetT Tryd.prog 22 #[.agg #[.int .u64 (k : Int), .int .u64 0, .int .u64 0, .int .u64 0], .agg #[.int .u64 (za 0), .int .u64 (za 1), .int .u64 (za 2), .int .u64 (za 3)]] (.agg #[.int .u64 ((sh k) 0), .int .u64 ((sh k) 1), .int .u64 ((sh k) 2), .int .u64 ((sh k) 3)])) (h2 : ∀ k : Nat, k < 256 → Ret Tryd.prog 8 #[.agg #[.int .u64 ((sh k) 0), .int .u64 ((sh k) 1), .int .u64 ((sh k) 2), .int .u64 ((sh k) 3)], .agg #[.int .u64 1, .int .u64 0, .int .u64 0, .int .u64 0]] (.agg #[.int .u64 (t k), .int .u64 0, .int .u64 0, .int .u64 0])) (h3 : ∀ k : Nat, k < 256 → RetT Tryd.prog 20 #[.agg #[.int .u64 (k : Int), .int .u64 0, .int .u64 0, .int .u64 0], .agg #[.int .u64 (t k), .int .u64 0, .int .u64 0, .int .u64 0]] (.agg #[.int .u64 ((up k) 0), .int .u64 ((up k) 1), .int .u64 ((up k) 2), .int .u64 ((up k) 3)])) (h4 : ∀ k : Nat, k < 256 → Ret Tryd.prog 10 #[.agg #[.int .u64 ((sm k) 0), .int .u64 ((sm k) 1), .int .u64 ((sm k) 2), .int .u64 ((sm k) 3)], .agg #[.int .u64 ((up k) 0), .int .u64 ((up k) 1), .int .u64 ((up k) 2), .int .u64 ((up k) 3)]] (.agg #[.int .u64 ((sm (k + 1)) 0), .int .u64 ((sm (k + 1)) 1), .int .u64 ((sm (k + 1)) 2), .int .u64 ((sm (k + 1)) 3)])) (h5 : ∀ j : Nat, sm 0 j = 0) (h6 : sm 256 = za) :
    RetT Tryd.prog 6 #[.agg #[.int .u64 (za 0), .int .u64 (za 1), .int .u64 (za 2), .int .u64 (za 3)]] (.bool true) := by
  intro w HT
  have k0 := awake_ret
  have Hk0 := Lib.hid k0
  clear k0
  have H1 := Lib.hid h1
  have H2 := Lib.hid h2
  have H3 := Lib.hid h3
  have H4 := Lib.hid h4
  have H5 := Lib.hid h5
  have H6 := Lib.hid h6
  have HTT := Lib.hid ht
  clear h1 h2 h3 h4 h5 h6 ht
  go_enter Tryd.func6, Tryd.ntmps6
  have LA := Has.new w 24 #[.int .u64 (za 0), .int .u64 (za 1), .int .u64 (za 2), .int .u64 (za 3)]
  have k1 := LA.cell 0 _ rfl
  have k2 := LA.cell 1 _ rfl
  have k3 := LA.cell 2 _ rfl
  have k4 := LA.cell 3 _ rfl
  have Q := (Below.refl w.heap.size w)
  have Q := Q.alloc Q.size (.cells #[.int .u64 (za 0), .int .u64 (za 1), .int .u64 (za 2), .int .u64 (za 3)] 24)
  have HT := HT.alloc (.cells #[.int .u64 (za 0), .int .u64 (za 1), .int .u64 (za 2), .int .u64 (za 3)] 24)
  go_wp2_with fail
  clear k1 k2 k3 k4
  obtain ⟨W1, hW1⟩ : ∃ W1, (w.alloc (.cells #[.int .u64 (za 0), .int .u64 (za 1), .int .u64 (za 2), .int .u64 (za 3)] 24)) = W1 := ⟨_, rfl⟩
  rw [hW1] at LA Q HT ⊢
  clear hW1
  refine (Hk0.out _ HT).mono ?_
  rintro e v5 ⟨rfl, q⟩
  have HT := HT.later q
  have LA := LA.later q
  have Q := Q.trans (q.mono Q.size)
  clear q
  have hAb := LA.lt
  have k6 := LA.cell 0 _ rfl
  have k7 := LA.cell 1 _ rfl
  have k8 := LA.cell 2 _ rfl
  have k9 := LA.cell 3 _ rfl
  have LA := LA.alloc (.cells #[.int .u64 1, .int .u64 0, .int .u64 0, .int .u64 0] 24)
  have LO := Has.new v5 24 #[.int .u64 1, .int .u64 0, .int .u64 0, .int .u64 0]
  have k10 := LA.cell 0 _ rfl
  have k11 := LA.cell 1 _ rfl
  have k12 := LA.cell 2 _ rfl
  have k13 := LA.cell 3 _ rfl
  have k14 := LO.cell 0 _ rfl
  have k15 := LO.cell 1 _ rfl
  have k16 := LO.cell 2 _ rfl
  have k17 := LO.cell 3 _ rfl
  have LA := LA.alloc (.cells #[.int .u64 0, .int .u64 0, .int .u64 0, .int .u64 0] 24)
  have LO := LO.alloc (.cells #[.int .u64 0, .int .u64 0, .int .u64 0, .int .u64 0] 24)
  have LS := Has.new (v5.alloc (.cells #[.int .u64 1, .int .u64 0, .int .u64 0, .int .u64 0] 24)) 24 #[.int .u64 0, .int .u64 0, .int .u64 0, .int .u64 0]
  simp only [World.size_alloc] at LS
  have k18 := LA.cell 0 _ rfl
  have k19 := LA.cell 1 _ rfl
  have k20 := LA.cell 2 _ rfl
  have k21 := LA.cell 3 _ rfl
  have k22 := LO.cell 0 _ rfl
  have k23 := LO.cell 1 _ rfl
  have k24 := LO.cell 2 _ rfl
  have k25 := LO.cell 3 _ rfl
  have k26 := LS.cell 0 _ rfl
  have k27 := LS.cell 1 _ rfl
  have k28 := LS.cell 2 _ rfl
  have k29 := LS.cell 3 _ rfl
  have Q := Q.alloc Q.size (.cells #[.int .u64 1, .int .u64 0, .int .u64 0, .int .u64 0] 24)
  have HT := HT.alloc (.cells #[.int .u64 1, .int .u64 0, .int .u64 0, .int .u64 0] 24)
  have Q := Q.alloc Q.size (.cells #[.int .u64 0, .int .u64 0, .int .u64 0, .int .u64 0] 24)
  have HT := HT.alloc (.cells #[.int .u64 0, .int .u64 0, .int .u64 0, .int .u64 0] 24)
  go_wp2
  clear k6 k7 k8 k9 k10 k11 k12 k13 k14 k15 k16 k17 k18 k19 k20 k21 k22 k23 k24 k25 k26 k27 k28 k29
  obtain ⟨W2, hW2⟩ : ∃ W2, ((v5.alloc (.cells #[.int .u64 1, .int .u64 0, .int .u64 0, .int .u64 0] 24)).alloc (.cells #[.int .u64 0, .int .u64 0, .int .u64 0, .int .u64 0] 24)) = W2 := ⟨_, rfl⟩
  rw [hW2] at LA LO LS Q HT ⊢
  clear hW2
  generalize v5.heap.size = b2 at *
  go_loopw [6] (fun i wr => ∃ k : Nat, k ≤ 256 ∧ i = .int .i64 (k : Int) ∧ Has wr (w.heap.size) 24 #[.int .u64 (za 0), .int .u64 (za 1), .int .u64 (za 2), .int .u64 (za 3)] ∧ Has wr (b2) 24 #[.int .u64 1, .int .u64 0, .int .u64 0, .int .u64 0] ∧ Has wr (b2 + 1) 24 #[.int .u64 (sm k 0), .int .u64 (sm k 1), .int .u64 (sm k 2), .int .u64 (sm k 3)] ∧ Tab wr ∧ Below w.heap.size w wr) (fun i _ => 256 - (intOf i).toNat)
  case atStart => exact ⟨0, by omega, rfl, LA, LO, by rw [H5.out, H5.out, H5.out, H5.out]; exact LS, HT, Q⟩
  case round =>
    obtain ⟨k, hk, rfl, LA, LO, LS, HT, Q⟩ := hrel
    by_cases hlt : k < 256
    · have hk0 : (0 : Int) ≤ (k : Int) := by omega
      have hk1 : (k : Int) < 256 := by omega
      have C1 := Lib.hid (H1.out k hlt)
      have c2 := H2.out k hlt
      have c3 := H3.out k hlt
      have C4 := Lib.hid (H4.out k hlt)
      have hwr := Q.size
      have hOb := LO.lt
      have hSb := LS.lt
      have HLT := Lib.hid hlt
      clear hk hlt H1 H2 H3 H4 H5
      have hmx : Tryd.prog.follows .mixedOrders = true := by kernel_rfl
      rcases HTT.out k with e | e <;> rw [e] at c2 c3 <;> clear e
      · have C2 := Lib.hid c2
        have C3 := Lib.hid c3
        clear c2 c3
        have k30 := LA.cell 0 _ rfl
        have k31 := LA.cell 1 _ rfl
        have k32 := LA.cell 2 _ rfl
        have k33 := LA.cell 3 _ rfl
        have k34 := LO.cell 0 _ rfl
        have k35 := LO.cell 1 _ rfl
        have k36 := LO.cell 2 _ rfl
        have k37 := LO.cell 3 _ rfl
        have k38 := LS.cell 0 _ rfl
        have k39 := LS.cell 1 _ rfl
        have k40 := LS.cell 2 _ rfl
        have k41 := LS.cell 3 _ rfl
        have LA := LA.alloc (.cells #[.int .u64 (k : Int), .int .u64 0, .int .u64 0, .int .u64 0] 24)
        have LO := LO.alloc (.cells #[.int .u64 (k : Int), .int .u64 0, .int .u64 0, .int .u64 0] 24)
        have LS := LS.alloc (.cells #[.int .u64 (k : Int), .int .u64 0, .int .u64 0, .int .u64 0] 24)
        have LK := Has.new wr 24 #[.int .u64 (k : Int), .int .u64 0, .int .u64 0, .int .u64 0]
        have k42 := LA.cell 0 _ rfl
        have k43 := LA.cell 1 _ rfl
        have k44 := LA.cell 2 _ rfl
        have k45 := LA.cell 3 _ rfl
        have k46 := LO.cell 0 _ rfl
        have k47 := LO.cell 1 _ rfl
        have k48 := LO.cell 2 _ rfl
        have k49 := LO.cell 3 _ rfl
        have k50 := LS.cell 0 _ rfl
        have k51 := LS.cell 1 _ rfl
        have k52 := LS.cell 2 _ rfl
        have k53 := LS.cell 3 _ rfl
        have k54 := LK.cell 0 _ rfl
        have k55 := LK.cell 1 _ rfl
        have k56 := LK.cell 2 _ rfl
        have k57 := LK.cell 3 _ rfl
        have Q := Q.alloc Q.size (.cells #[.int .u64 (k : Int), .int .u64 0, .int .u64 0, .int .u64 0] 24)
        have HT := HT.alloc (.cells #[.int .u64 (k : Int), .int .u64 0, .int .u64 0, .int .u64 0] 24)
        go_wp2_with fail
        clear k30 k31 k32 k33 k34 k35 k36 k37 k38 k39 k40 k41 k42 k43 k44 k45 k46 k47 k48 k49 k50 k51 k52 k53 k54 k55 k56 k57
        obtain ⟨W3, hW3⟩ : ∃ W3, (wr.alloc (.cells #[.int .u64 (k : Int), .int .u64 0, .int .u64 0, .int .u64 0] 24)) = W3 := ⟨_, rfl⟩
        rw [hW3] at LA LO LS LK Q HT ⊢
        clear hW3
        generalize wr.heap.size = b3 at *
        refine wp_region_ghost [some (.agg #[.int .u64 (k : Int), .int .u64 0, .int .u64 0, .int .u64 0]), some (.agg #[.int .u64 (za 0), .int .u64 (za 1), .int .u64 (za 2), .int .u64 (za 3)]), some (.agg #[.int .u64 (sh k 0), .int .u64 (sh k 1), .int .u64 (sh k 2), .int .u64 (sh k 3)]), some (.agg #[.int .u64 1, .int .u64 0, .int .u64 0, .int .u64 0]), some (.agg #[.int .u64 0, .int .u64 0, .int .u64 0, .int .u64 0]), none, none] [[], [], [0, 1], [], [0, 1, 2, 3], [], [0, 1, 2, 3, 4, 5]] (fun f g w' => Below W3.heap.size W3 w' ∧ (f 5 = true → ∃ B, g 5 = .pointer (some ⟨B, 0, none⟩) ∧ W3.heap.size ≤ B ∧ Has w' B 24 (cellsIf (f 6) #[.int .u64 0, .int .u64 0, .int .u64 0, .int .u64 0] #[.int .u64 0, .int .u64 0, .int .u64 0, .int .u64 0])))
          (by kernel_rfl) (by kernel_rfl) (by kernel_rfl) ?_ ?_ ?_ ?_
        · rintro f g wa wb ⟨h1, h2⟩ hb
          exact ⟨h1.trans (hb.mono h1.size), fun h => let ⟨B, e, hB, hL⟩ := h2 h; ⟨B, e, hB, hL.later hb⟩⟩
        · intro f f' g g' wa h
          have ha := h 5 rfl
          have hs := h 6 rfl
          simp only [ha.1, ha.2, hs.1]
          exact id
        · exact ⟨(Below.refl _ _).drew, by simp⟩
        rintro f g y58 ⟨h1, h2⟩ Dn
        have LA := LA.later h1
        have LO := LO.later h1
        have LS := LS.later h1
        have LK := LK.later h1
        have HT := HT.later h1
        have k59 := LA.cell 0 _ rfl
        have k60 := LA.cell 1 _ rfl
        have k61 := LA.cell 2 _ rfl
        have k62 := LA.cell 3 _ rfl
        have k63 := LO.cell 0 _ rfl
        have k64 := LO.cell 1 _ rfl
        have k65 := LO.cell 2 _ rfl
        have k66 := LO.cell 3 _ rfl
        have k67 := LS.cell 0 _ rfl
        have k68 := LS.cell 1 _ rfl
        have k69 := LS.cell 2 _ rfl
        have k70 := LS.cell 3 _ rfl
        have k71 := LK.cell 0 _ rfl
        have k72 := LK.cell 1 _ rfl
        have k73 := LK.cell 2 _ rfl
        have k74 := LK.cell 3 _ rfl
        refine GW.known _ rfl (fun hd hf => ?_) ?_
        · go_wp2
          exact ⟨rfl, rfl, Below.refl _ _⟩
        simp only [Act.put, List.setIfInBounds_toArray, List.set_cons_succ, List.set_cons_zero]
        refine GW.known _ rfl (fun hd hf => ?_) ?_
        · go_wp2
          exact ⟨rfl, rfl, Below.refl _ _⟩
        simp only [Act.put, List.setIfInBounds_toArray, List.set_cons_succ, List.set_cons_zero]
        refine GW.known _ rfl (fun hd hf => ?_) ?_
        · go_wp2_with fail
          refine (C1.out _ HT).mono ?_
          rintro e u ⟨rfl, hb⟩
          go_wp2
          exact ⟨rfl, rfl, hb⟩
        simp only [Act.put, List.setIfInBounds_toArray, List.set_cons_succ, List.set_cons_zero]
        refine GW.known _ rfl (fun hd hf => ?_) ?_
        · go_wp2
          exact ⟨rfl, rfl, Below.refl _ _⟩
        simp only [Act.put, List.setIfInBounds_toArray, List.set_cons_succ, List.set_cons_zero]
        refine GW.known _ rfl (fun hd hf => ?_) ?_
        · go_wp2_with fail
          refine (C2.out _).mono ?_
          rintro e u ⟨rfl, hb⟩
          go_wp2
          exact ⟨rfl, rfl, hb⟩
        simp only [Act.put, List.setIfInBounds_toArray, List.set_cons_succ, List.set_cons_zero]
        refine GW.open rfl (fun hd hf => ?_) ?_
        · have fs : f 6 = false := by
            cases h : f 6 with
            | false => rfl
            | true => have := Dn 6 h 5 (by decide); rw [hf] at this; cases this
          have fu : upd f 5 true 6 = false := (upd_ne f true (show (6 : Nat) ≠ 5 by decide)).trans fs
          go_wp2
          refine ⟨rfl, h1.alloc h1.size _, fun _ => ⟨_, rfl, h1.size, ?_⟩⟩
          show Has _ _ 24 (cellsIf (upd f 5 true 6) #[.int .u64 0, .int .u64 0, .int .u64 0, .int .u64 0] #[.int .u64 0, .int .u64 0, .int .u64 0, .int .u64 0])
          rw [fu, cellsIf_false]
          exact Has.new _ _ _
        simp only [Act.put, List.setIfInBounds_toArray, List.set_cons_succ, List.set_cons_zero]
        refine GW.open rfl (fun hd hf => ?_) ?_
        · obtain ⟨B, eB, hB, LB⟩ := h2 (hd 5 (by decide))
          rw [hf, cellsIf_false] at LB
          rw [eB]
          have c0 := LB.cell 0 _ rfl
          have z0 := LB.frozen 0
          have c1 := LB.cell 1 _ rfl
          have z1 := LB.frozen 1
          have c2 := LB.cell 2 _ rfl
          have z2 := LB.frozen 2
          have c3 := LB.cell 3 _ rfl
          have z3 := LB.frozen 3
          go_wp2
          refine ⟨rfl, ((((h1.setCell (p := ⟨B, 0, none⟩) hB (.int .u64 0)).setCell (p := ⟨B, 1, none⟩) hB (.int .u64 0)).setCell (p := ⟨B, 2, none⟩) hB (.int .u64 0)).setCell (p := ⟨B, 3, none⟩) hB (.int .u64 0)), fun _ => ⟨B, eB, hB, ?_⟩⟩
          show Has _ B 24 (cellsIf (upd f 6 true 6) #[.int .u64 0, .int .u64 0, .int .u64 0, .int .u64 0] #[.int .u64 0, .int .u64 0, .int .u64 0, .int .u64 0])
          rw [upd_self, cellsIf_true]
          exact ((((LB.set 0 (.int .u64 0)).set 1 (.int .u64 0)).set 2 (.int .u64 0)).set 3 (.int .u64 0))
        simp only [Act.put, List.setIfInBounds_toArray, List.set_cons_succ, List.set_cons_zero]
        refine GW.nil (fun hall => ?_)
        obtain ⟨b58, eB, hB, LB⟩ := h2 (hall 5 (by omega))
        rw [hall 6 (by omega), cellsIf_true] at LB
        have Q := Q.trans (h1.mono Q.size)
        clear h2 Dn hall k59 k60 k61 k62 k63 k64 k65 k66 k67 k68 k69 k70 k71 k72 k73 k74
        rw [eB]
        clear eB hB h1
        clear C1 C2
        have k75 := LA.cell 0 _ rfl
        have k76 := LA.cell 1 _ rfl
        have k77 := LA.cell 2 _ rfl
        have k78 := LA.cell 3 _ rfl
        have k79 := LO.cell 0 _ rfl
        have k80 := LO.cell 1 _ rfl
        have k81 := LO.cell 2 _ rfl
        have k82 := LO.cell 3 _ rfl
        have k83 := LS.cell 0 _ rfl
        have k84 := LS.cell 1 _ rfl
        have k85 := LS.cell 2 _ rfl
        have k86 := LS.cell 3 _ rfl
        have k87 := LK.cell 0 _ rfl
        have k88 := LK.cell 1 _ rfl
        have k89 := LK.cell 2 _ rfl
        have k90 := LK.cell 3 _ rfl
        have k91 := LB.cell 0 _ rfl
        have k92 := LB.cell 1 _ rfl
        have k93 := LB.cell 2 _ rfl
        have k94 := LB.cell 3 _ rfl
        go_wp2_with fail
        clear k75 k76 k77 k78 k79 k80 k81 k82 k83 k84 k85 k86 k87 k88 k89 k90 k91 k92 k93 k94
        have k95 : ∀ x : Ext y58, x.w.cell? ⟨b2 + 1, 0, none⟩ = some (.int .u64 (sm k 0)) := fun x => (LS.later x.below).cell 0 _ rfl
        have k96 : ∀ x : Ext y58, x.w.cell? ⟨b2 + 1, 1, none⟩ = some (.int .u64 (sm k 1)) := fun x => (LS.later x.below).cell 1 _ rfl
        have k97 : ∀ x : Ext y58, x.w.cell? ⟨b2 + 1, 2, none⟩ = some (.int .u64 (sm k 2)) := fun x => (LS.later x.below).cell 2 _ rfl
        have k98 : ∀ x : Ext y58, x.w.cell? ⟨b2 + 1, 3, none⟩ = some (.int .u64 (sm k 3)) := fun x => (LS.later x.below).cell 3 _ rfl
        have k99 : ∀ x : Ext y58, x.w.cell? ⟨b3, 0, none⟩ = some (.int .u64 (k : Int)) := fun x => (LK.later x.below).cell 0 _ rfl
        have k100 : ∀ x : Ext y58, x.w.cell? ⟨b3, 1, none⟩ = some (.int .u64 0) := fun x => (LK.later x.below).cell 1 _ rfl
        have k101 : ∀ x : Ext y58, x.w.cell? ⟨b3, 2, none⟩ = some (.int .u64 0) := fun x => (LK.later x.below).cell 2 _ rfl
        have k102 : ∀ x : Ext y58, x.w.cell? ⟨b3, 3, none⟩ = some (.int .u64 0) := fun x => (LK.later x.below).cell 3 _ rfl
        have k103 : ∀ x : Ext y58, x.w.cell? ⟨b58, 0, none⟩ = some (.int .u64 0) := fun x => (LB.later x.below).cell 0 _ rfl
        have k104 : ∀ x : Ext y58, x.w.cell? ⟨b58, 1, none⟩ = some (.int .u64 0) := fun x => (LB.later x.below).cell 1 _ rfl
        have k105 : ∀ x : Ext y58, x.w.cell? ⟨b58, 2, none⟩ = some (.int .u64 0) := fun x => (LB.later x.below).cell 2 _ rfl
        have k106 : ∀ x : Ext y58, x.w.cell? ⟨b58, 3, none⟩ = some (.int .u64 0) := fun x => (LB.later x.below).cell 3 _ rfl
        refine wp_region_mix (C := Grows y58) [some true, some true, some true, some true, some true, none] hmx (by kernel_rfl) (by kernel_rfl) (grows_refl y58) ?_
        simp only [headOf, tailOf]
        repeat (go_big_quiet_step (first | (with_reducible exact RetT.at C3.out HT _) | (with_reducible exact Ret.at C4.out _)))
        refine wpQuiet_nil ?_
        rintro _ ⟨x, rfl⟩
        clear k95 k96 k97 k98 k99 k100 k101 k102 k103 k104 k105 k106 C3 C4
        have sA : w.heap.size ≠ b2 + 1 := by omega
        have sO : b2 ≠ b2 + 1 := by omega
        have hS0 : 0 < b2 + 1 := by omega
        have hwS : w.heap.size ≤ b2 + 1 := by omega
        have HT := HT.later x.below
        have LS := LS.later x.below
        have fS0 := LS.frozen 0
        have fS1 := LS.frozen 1
        have fS2 := LS.frozen 2
        have fS3 := LS.frozen 3
        have cS0 := LS.cell 0 _ rfl
        have cS1 := LS.cell 1 _ rfl
        have cS2 := LS.cell 2 _ rfl
        have cS3 := LS.cell 3 _ rfl
        have N1 := Lib.hid ((((((LA.later x.below).other (p := ⟨b2 + 1, 0, none⟩) sA (.int .u64 (sm (k + 1) 0))).other (p := ⟨b2 + 1, 1, none⟩) sA (.int .u64 (sm (k + 1) 1))).other (p := ⟨b2 + 1, 2, none⟩) sA (.int .u64 (sm (k + 1) 2))).other (p := ⟨b2 + 1, 3, none⟩) sA (.int .u64 (sm (k + 1) 3))))
        have N2 := Lib.hid ((((((LO.later x.below).other (p := ⟨b2 + 1, 0, none⟩) sO (.int .u64 (sm (k + 1) 0))).other (p := ⟨b2 + 1, 1, none⟩) sO (.int .u64 (sm (k + 1) 1))).other (p := ⟨b2 + 1, 2, none⟩) sO (.int .u64 (sm (k + 1) 2))).other (p := ⟨b2 + 1, 3, none⟩) sO (.int .u64 (sm (k + 1) 3))))
        have N3 := Lib.hid (((((LS.set 0 (.int .u64 (sm (k + 1) 0))).set 1 (.int .u64 (sm (k + 1) 1))).set 2 (.int .u64 (sm (k + 1) 2))).set 3 (.int .u64 (sm (k + 1) 3))))
        have N4 := Lib.hid (((((HT.other (p := ⟨b2 + 1, 0, none⟩) hS0 (.int .u64 (sm (k + 1) 0))).other (p := ⟨b2 + 1, 1, none⟩) hS0 (.int .u64 (sm (k + 1) 1))).other (p := ⟨b2 + 1, 2, none⟩) hS0 (.int .u64 (sm (k + 1) 2))).other (p := ⟨b2 + 1, 3, none⟩) hS0 (.int .u64 (sm (k + 1) 3))))
        have N5 := Lib.hid ((((((Q.trans (x.below.mono Q.size)).setCell (p := ⟨b2 + 1, 0, none⟩) hwS (.int .u64 (sm (k + 1) 0))).setCell (p := ⟨b2 + 1, 1, none⟩) hwS (.int .u64 (sm (k + 1) 1))).setCell (p := ⟨b2 + 1, 2, none⟩) hwS (.int .u64 (sm (k + 1) 2))).setCell (p := ⟨b2 + 1, 3, none⟩) hwS (.int .u64 (sm (k + 1) 3))))
        clear LA LO LK LB LS HT Q
        go_wp2
        rw [calmPost_normal]
        clear fS0 fS1 fS2 fS3 cS0 cS1 cS2 cS3
        go_wp2
        go_roundw
        case rel => exact ⟨k + 1, by have := HLT.out; omega, by simp, N1.out, N2.out, N3.out, N4.out, N5.out⟩
        case measure => simp [intOf]; omega
      · have C2 := Lib.hid c2
        have C3 := Lib.hid c3
        clear c2 c3
        have k30 := LA.cell 0 _ rfl
        have k31 := LA.cell 1 _ rfl
        have k32 := LA.cell 2 _ rfl
        have k33 := LA.cell 3 _ rfl
        have k34 := LO.cell 0 _ rfl
        have k35 := LO.cell 1 _ rfl
        have k36 := LO.cell 2 _ rfl
        have k37 := LO.cell 3 _ rfl
        have k38 := LS.cell 0 _ rfl
        have k39 := LS.cell 1 _ rfl
        have k40 := LS.cell 2 _ rfl
        have k41 := LS.cell 3 _ rfl
        have LA := LA.alloc (.cells #[.int .u64 (k : Int), .int .u64 0, .int .u64 0, .int .u64 0] 24)
        have LO := LO.alloc (.cells #[.int .u64 (k : Int), .int .u64 0, .int .u64 0, .int .u64 0] 24)
        have LS := LS.alloc (.cells #[.int .u64 (k : Int), .int .u64 0, .int .u64 0, .int .u64 0] 24)
        have LK := Has.new wr 24 #[.int .u64 (k : Int), .int .u64 0, .int .u64 0, .int .u64 0]
        have k42 := LA.cell 0 _ rfl
        have k43 := LA.cell 1 _ rfl
        have k44 := LA.cell 2 _ rfl
        have k45 := LA.cell 3 _ rfl
        have k46 := LO.cell 0 _ rfl
        have k47 := LO.cell 1 _ rfl
        have k48 := LO.cell 2 _ rfl
        have k49 := LO.cell 3 _ rfl
        have k50 := LS.cell 0 _ rfl
        have k51 := LS.cell 1 _ rfl
        have k52 := LS.cell 2 _ rfl
        have k53 := LS.cell 3 _ rfl
        have k54 := LK.cell 0 _ rfl
        have k55 := LK.cell 1 _ rfl
        have k56 := LK.cell 2 _ rfl
        have k57 := LK.cell 3 _ rfl
        have Q := Q.alloc Q.size (.cells #[.int .u64 (k : Int), .int .u64 0, .int .u64 0, .int .u64 0] 24)
        have HT := HT.alloc (.cells #[.int .u64 (k : Int), .int .u64 0, .int .u64 0, .int .u64 0] 24)
        go_wp2_with fail
        clear k30 k31 k32 k33 k34 k35 k36 k37 k38 k39 k40 k41 k42 k43 k44 k45 k46 k47 k48 k49 k50 k51 k52 k53 k54 k55 k56 k57
        obtain ⟨W3, hW3⟩ : ∃ W3, (wr.alloc (.cells #[.int .u64 (k : Int), .int .u64 0, .int .u64 0, .int .u64 0] 24)) = W3 := ⟨_, rfl⟩
        rw [hW3] at LA LO LS LK Q HT ⊢
        clear hW3
        generalize wr.heap.size = b3 at *
        refine wp_region_ghost [some (.agg #[.int .u64 (k : Int), .int .u64 0, .int .u64 0, .int .u64 0]), some (.agg #[.int .u64 (za 0), .int .u64 (za 1), .int .u64 (za 2), .int .u64 (za 3)]), some (.agg #[.int .u64 (sh k 0), .int .u64 (sh k 1), .int .u64 (sh k 2), .int .u64 (sh k 3)]), some (.agg #[.int .u64 1, .int .u64 0, .int .u64 0, .int .u64 0]), some (.agg #[.int .u64 1, .int .u64 0, .int .u64 0, .int .u64 0]), none, none] [[], [], [0, 1], [], [0, 1, 2, 3], [], [0, 1, 2, 3, 4, 5]] (fun f g w' => Below W3.heap.size W3 w' ∧ (f 5 = true → ∃ B, g 5 = .pointer (some ⟨B, 0, none⟩) ∧ W3.heap.size ≤ B ∧ Has w' B 24 (cellsIf (f 6) #[.int .u64 1, .int .u64 0, .int .u64 0, .int .u64 0] #[.int .u64 0, .int .u64 0, .int .u64 0, .int .u64 0])))
          (by kernel_rfl) (by kernel_rfl) (by kernel_rfl) ?_ ?_ ?_ ?_
        · rintro f g wa wb ⟨h1, h2⟩ hb
          exact ⟨h1.trans (hb.mono h1.size), fun h => let ⟨B, e, hB, hL⟩ := h2 h; ⟨B, e, hB, hL.later hb⟩⟩
        · intro f f' g g' wa h
          have ha := h 5 rfl
          have hs := h 6 rfl
          simp only [ha.1, ha.2, hs.1]
          exact id
        · exact ⟨(Below.refl _ _).drew, by simp⟩
        rintro f g y58 ⟨h1, h2⟩ Dn
        have LA := LA.later h1
        have LO := LO.later h1
        have LS := LS.later h1
        have LK := LK.later h1
        have HT := HT.later h1
        have k59 := LA.cell 0 _ rfl
        have k60 := LA.cell 1 _ rfl
        have k61 := LA.cell 2 _ rfl
        have k62 := LA.cell 3 _ rfl
        have k63 := LO.cell 0 _ rfl
        have k64 := LO.cell 1 _ rfl
        have k65 := LO.cell 2 _ rfl
        have k66 := LO.cell 3 _ rfl
        have k67 := LS.cell 0 _ rfl
        have k68 := LS.cell 1 _ rfl
        have k69 := LS.cell 2 _ rfl
        have k70 := LS.cell 3 _ rfl
        have k71 := LK.cell 0 _ rfl
        have k72 := LK.cell 1 _ rfl
        have k73 := LK.cell 2 _ rfl
        have k74 := LK.cell 3 _ rfl
        refine GW.known _ rfl (fun hd hf => ?_) ?_
        · go_wp2
          exact ⟨rfl, rfl, Below.refl _ _⟩
        simp only [Act.put, List.setIfInBounds_toArray, List.set_cons_succ, List.set_cons_zero]
        refine GW.known _ rfl (fun hd hf => ?_) ?_
        · go_wp2
          exact ⟨rfl, rfl, Below.refl _ _⟩
        simp only [Act.put, List.setIfInBounds_toArray, List.set_cons_succ, List.set_cons_zero]
        refine GW.known _ rfl (fun hd hf => ?_) ?_
        · go_wp2_with fail
          refine (C1.out _ HT).mono ?_
          rintro e u ⟨rfl, hb⟩
          go_wp2
          exact ⟨rfl, rfl, hb⟩
        simp only [Act.put, List.setIfInBounds_toArray, List.set_cons_succ, List.set_cons_zero]
        refine GW.known _ rfl (fun hd hf => ?_) ?_
        · go_wp2
          exact ⟨rfl, rfl, Below.refl _ _⟩
        simp only [Act.put, List.setIfInBounds_toArray, List.set_cons_succ, List.set_cons_zero]
        refine GW.known _ rfl (fun hd hf => ?_) ?_
        · go_wp2_with fail
          refine (C2.out _).mono ?_
          rintro e u ⟨rfl, hb⟩
          go_wp2
          exact ⟨rfl, rfl, hb⟩
        simp only [Act.put, List.setIfInBounds_toArray, List.set_cons_succ, List.set_cons_zero]
        refine GW.open rfl (fun hd hf => ?_) ?_
        · have fs : f 6 = false := by
            cases h : f 6 with
            | false => rfl
            | true => have := Dn 6 h 5 (by decide); rw [hf] at this; cases this
          have fu : upd f 5 true 6 = false := (upd_ne f true (show (6 : Nat) ≠ 5 by decide)).trans fs
          go_wp2
          refine ⟨rfl, h1.alloc h1.size _, fun _ => ⟨_, rfl, h1.size, ?_⟩⟩
          show Has _ _ 24 (cellsIf (upd f 5 true 6) #[.int .u64 1, .int .u64 0, .int .u64 0, .int .u64 0] #[.int .u64 0, .int .u64 0, .int .u64 0, .int .u64 0])
          rw [fu, cellsIf_false]
          exact Has.new _ _ _
        simp only [Act.put, List.setIfInBounds_toArray, List.set_cons_succ, List.set_cons_zero]
        refine GW.open rfl (fun hd hf => ?_) ?_
        · obtain ⟨B, eB, hB, LB⟩ := h2 (hd 5 (by decide))
          rw [hf, cellsIf_false] at LB
          rw [eB]
          have c0 := LB.cell 0 _ rfl
          have z0 := LB.frozen 0
          have c1 := LB.cell 1 _ rfl
          have z1 := LB.frozen 1
          have c2 := LB.cell 2 _ rfl
          have z2 := LB.frozen 2
          have c3 := LB.cell 3 _ rfl
          have z3 := LB.frozen 3
          go_wp2
          refine ⟨rfl, ((((h1.setCell (p := ⟨B, 0, none⟩) hB (.int .u64 1)).setCell (p := ⟨B, 1, none⟩) hB (.int .u64 0)).setCell (p := ⟨B, 2, none⟩) hB (.int .u64 0)).setCell (p := ⟨B, 3, none⟩) hB (.int .u64 0)), fun _ => ⟨B, eB, hB, ?_⟩⟩
          show Has _ B 24 (cellsIf (upd f 6 true 6) #[.int .u64 1, .int .u64 0, .int .u64 0, .int .u64 0] #[.int .u64 0, .int .u64 0, .int .u64 0, .int .u64 0])
          rw [upd_self, cellsIf_true]
          exact ((((LB.set 0 (.int .u64 1)).set 1 (.int .u64 0)).set 2 (.int .u64 0)).set 3 (.int .u64 0))
        simp only [Act.put, List.setIfInBounds_toArray, List.set_cons_succ, List.set_cons_zero]
        refine GW.nil (fun hall => ?_)
        obtain ⟨b58, eB, hB, LB⟩ := h2 (hall 5 (by omega))
        rw [hall 6 (by omega), cellsIf_true] at LB
        have Q := Q.trans (h1.mono Q.size)
        clear h2 Dn hall k59 k60 k61 k62 k63 k64 k65 k66 k67 k68 k69 k70 k71 k72 k73 k74
        rw [eB]
        clear eB hB h1
        clear C1 C2
        have k75 := LA.cell 0 _ rfl
        have k76 := LA.cell 1 _ rfl
        have k77 := LA.cell 2 _ rfl
        have k78 := LA.cell 3 _ rfl
        have k79 := LO.cell 0 _ rfl
        have k80 := LO.cell 1 _ rfl
        have k81 := LO.cell 2 _ rfl
        have k82 := LO.cell 3 _ rfl
        have k83 := LS.cell 0 _ rfl
        have k84 := LS.cell 1 _ rfl
        have k85 := LS.cell 2 _ rfl
        have k86 := LS.cell 3 _ rfl
        have k87 := LK.cell 0 _ rfl
        have k88 := LK.cell 1 _ rfl
        have k89 := LK.cell 2 _ rfl
        have k90 := LK.cell 3 _ rfl
        have k91 := LB.cell 0 _ rfl
        have k92 := LB.cell 1 _ rfl
        have k93 := LB.cell 2 _ rfl
        have k94 := LB.cell 3 _ rfl
        go_wp2_with fail
        clear k75 k76 k77 k78 k79 k80 k81 k82 k83 k84 k85 k86 k87 k88 k89 k90 k91 k92 k93 k94
        have k95 : ∀ x : Ext y58, x.w.cell? ⟨b2 + 1, 0, none⟩ = some (.int .u64 (sm k 0)) := fun x => (LS.later x.below).cell 0 _ rfl
        have k96 : ∀ x : Ext y58, x.w.cell? ⟨b2 + 1, 1, none⟩ = some (.int .u64 (sm k 1)) := fun x => (LS.later x.below).cell 1 _ rfl
        have k97 : ∀ x : Ext y58, x.w.cell? ⟨b2 + 1, 2, none⟩ = some (.int .u64 (sm k 2)) := fun x => (LS.later x.below).cell 2 _ rfl
        have k98 : ∀ x : Ext y58, x.w.cell? ⟨b2 + 1, 3, none⟩ = some (.int .u64 (sm k 3)) := fun x => (LS.later x.below).cell 3 _ rfl
        have k99 : ∀ x : Ext y58, x.w.cell? ⟨b3, 0, none⟩ = some (.int .u64 (k : Int)) := fun x => (LK.later x.below).cell 0 _ rfl
        have k100 : ∀ x : Ext y58, x.w.cell? ⟨b3, 1, none⟩ = some (.int .u64 0) := fun x => (LK.later x.below).cell 1 _ rfl
        have k101 : ∀ x : Ext y58, x.w.cell? ⟨b3, 2, none⟩ = some (.int .u64 0) := fun x => (LK.later x.below).cell 2 _ rfl
        have k102 : ∀ x : Ext y58, x.w.cell? ⟨b3, 3, none⟩ = some (.int .u64 0) := fun x => (LK.later x.below).cell 3 _ rfl
        have k103 : ∀ x : Ext y58, x.w.cell? ⟨b58, 0, none⟩ = some (.int .u64 1) := fun x => (LB.later x.below).cell 0 _ rfl
        have k104 : ∀ x : Ext y58, x.w.cell? ⟨b58, 1, none⟩ = some (.int .u64 0) := fun x => (LB.later x.below).cell 1 _ rfl
        have k105 : ∀ x : Ext y58, x.w.cell? ⟨b58, 2, none⟩ = some (.int .u64 0) := fun x => (LB.later x.below).cell 2 _ rfl
        have k106 : ∀ x : Ext y58, x.w.cell? ⟨b58, 3, none⟩ = some (.int .u64 0) := fun x => (LB.later x.below).cell 3 _ rfl
        refine wp_region_mix (C := Grows y58) [some true, some true, some true, some true, some true, none] hmx (by kernel_rfl) (by kernel_rfl) (grows_refl y58) ?_
        simp only [headOf, tailOf]
        repeat (go_big_quiet_step (first | (with_reducible exact RetT.at C3.out HT _) | (with_reducible exact Ret.at C4.out _)))
        refine wpQuiet_nil ?_
        rintro _ ⟨x, rfl⟩
        clear k95 k96 k97 k98 k99 k100 k101 k102 k103 k104 k105 k106 C3 C4
        have sA : w.heap.size ≠ b2 + 1 := by omega
        have sO : b2 ≠ b2 + 1 := by omega
        have hS0 : 0 < b2 + 1 := by omega
        have hwS : w.heap.size ≤ b2 + 1 := by omega
        have HT := HT.later x.below
        have LS := LS.later x.below
        have fS0 := LS.frozen 0
        have fS1 := LS.frozen 1
        have fS2 := LS.frozen 2
        have fS3 := LS.frozen 3
        have cS0 := LS.cell 0 _ rfl
        have cS1 := LS.cell 1 _ rfl
        have cS2 := LS.cell 2 _ rfl
        have cS3 := LS.cell 3 _ rfl
        have N1 := Lib.hid ((((((LA.later x.below).other (p := ⟨b2 + 1, 0, none⟩) sA (.int .u64 (sm (k + 1) 0))).other (p := ⟨b2 + 1, 1, none⟩) sA (.int .u64 (sm (k + 1) 1))).other (p := ⟨b2 + 1, 2, none⟩) sA (.int .u64 (sm (k + 1) 2))).other (p := ⟨b2 + 1, 3, none⟩) sA (.int .u64 (sm (k + 1) 3))))
        have N2 := Lib.hid ((((((LO.later x.below).other (p := ⟨b2 + 1, 0, none⟩) sO (.int .u64 (sm (k + 1) 0))).other (p := ⟨b2 + 1, 1, none⟩) sO (.int .u64 (sm (k + 1) 1))).other (p := ⟨b2 + 1, 2, none⟩) sO (.int .u64 (sm (k + 1) 2))).other (p := ⟨b2 + 1, 3, none⟩) sO (.int .u64 (sm (k + 1) 3))))
        have N3 := Lib.hid (((((LS.set 0 (.int .u64 (sm (k + 1) 0))).set 1 (.int .u64 (sm (k + 1) 1))).set 2 (.int .u64 (sm (k + 1) 2))).set 3 (.int .u64 (sm (k + 1) 3))))
        have N4 := Lib.hid (((((HT.other (p := ⟨b2 + 1, 0, none⟩) hS0 (.int .u64 (sm (k + 1) 0))).other (p := ⟨b2 + 1, 1, none⟩) hS0 (.int .u64 (sm (k + 1) 1))).other (p := ⟨b2 + 1, 2, none⟩) hS0 (.int .u64 (sm (k + 1) 2))).other (p := ⟨b2 + 1, 3, none⟩) hS0 (.int .u64 (sm (k + 1) 3))))
        have N5 := Lib.hid ((((((Q.trans (x.below.mono Q.size)).setCell (p := ⟨b2 + 1, 0, none⟩) hwS (.int .u64 (sm (k + 1) 0))).setCell (p := ⟨b2 + 1, 1, none⟩) hwS (.int .u64 (sm (k + 1) 1))).setCell (p := ⟨b2 + 1, 2, none⟩) hwS (.int .u64 (sm (k + 1) 2))).setCell (p := ⟨b2 + 1, 3, none⟩) hwS (.int .u64 (sm (k + 1) 3))))
        clear LA LO LK LB LS HT Q
        go_wp2
        rw [calmPost_normal]
        clear fS0 fS1 fS2 fS3 cS0 cS1 cS2 cS3
        go_wp2
        go_roundw
        case rel => exact ⟨k + 1, by have := HLT.out; omega, by simp, N1.out, N2.out, N3.out, N4.out, N5.out⟩
        case measure => simp [intOf]; omega
    · obtain rfl : k = 256 := by omega
      rw [H6.out] at LS
      clear hk hlt H1 H2 H3 H4 H5 H6 HTT
      have a0 := LA.cell 0 _ rfl
      have s0 := LS.cell 0 _ rfl
      have a1 := LA.cell 1 _ rfl
      have s1 := LS.cell 1 _ rfl
      have a2 := LA.cell 2 _ rfl
      have s2 := LS.cell 2 _ rfl
      have a3 := LA.cell 3 _ rfl
      have s3 := LS.cell 3 _ rfl
      have HQ := Lib.hid Q
      clear Q LA LO LS HT
      go_wp2
      go_ret
      exact ⟨rfl, HQ.out⟩

end Go.Proofs.YtnlcllhjhbaigaaDoor
