/- The law AccessOrders: case 3. Conditions: none. -/
import Derived.Test.YtfnkmafdmfljmaaAcI
namespace Go.Proofs.Ytfnkmafdmfljmaa
open Go Go.RowKit
attribute [local go_sem] Oper.semAt_some Grows wide_fn
set_option maxRecDepth 100000 in
set_option maxHeartbeats 16000000 in
theorem accessOrders_walk3 (W : World) (ca cb cc cd ad : Array Value) (x y z u : Int) (ha : (ca.all (·.oneCell') = true)) (hb : (cb.all (·.oneCell') = true)) (hc : (cc.all (·.oneCell') = true))
    (OAB : Hid (∀ X, Calls Try.prog 12 #[.agg ca, .agg cb] X fun e w' => e = .returned (.int .i64 x) ∧ Below X.heap.size X w'))
    (OBC : Hid (∀ X, Calls Try.prog 12 #[.agg cb, .agg cc] X fun e w' => e = .returned (.int .i64 y) ∧ Below X.heap.size X w'))
    (OAC : Hid (∀ X, Calls Try.prog 12 #[.agg ca, .agg cc] X fun e w' => e = .returned (.int .i64 z) ∧ Below X.heap.size X w'))
    (OBA : Hid (∀ X, Calls Try.prog 12 #[.agg cb, .agg ca] X fun e w' => e = .returned (.int .i64 (-x)) ∧ Below X.heap.size X w'))
    (ODA : Hid (∀ X, Calls Try.prog 12 #[.agg cd, .agg ca] X fun e w' => e = .returned (.int .i64 u) ∧ Below X.heap.size X w'))
    (AW : Hid (∀ X, Calls Try.prog 8 #[] X fun e w' => e = .returned (.bool true) ∧ Below X.heap.size X w'))
    (LDA : Hid (∀ X B, Has X B 31 ca → (loadVar 31 ⟨B, 0, none⟩).run Try.prog X = .ok (.agg ca) X))
    (LDB : Hid (∀ X B, Has X B 31 cb → (loadVar 31 ⟨B, 0, none⟩).run Try.prog X = .ok (.agg cb) X))
    (LDC : Hid (∀ X B, Has X B 31 cc → (loadVar 31 ⟨B, 0, none⟩).run Try.prog X = .ok (.agg cc) X))
    (LDD : Hid (∀ X B, Has X B 31 ca → (loadVar 26 ⟨B, 0, none⟩).run Try.prog X = .ok (.agg ad) X))
    (E : ∀ X, (Op.equalIn 10000 31 (.agg ca) (.agg cb)).run Try.prog X = .ok (x == 0) X)
    (BD : Try.prog.built 31 [(0, .agg ad)] = some cd)
    (hxyz : (x, y, z) ∈ [((1 : Int), (-1 : Int), (-1 : Int)), (1, -1, 0), (1, -1, 1), (1, 0, 1), (1, 1, 1)]) (hu : u = -1 ∨ u = 0) :
    Calls Try.prog 4 #[.agg ca, .agg cb, .agg cc] W fun e w' => e = .returned (.bool true) ∧ Below W.heap.size W w' := by
  have h0 := (((Has.new W 31 ca).alloc (.cells cb 31)).alloc (.cells cc 31))
  have h1 := ((Has.new (W.alloc (.cells ca 31)) 31 cb).alloc (.cells cc 31))
  have h2 := (Has.new ((W.alloc (.cells ca 31)).alloc (.cells cb 31)) 31 cc)
  simp only [World.size_alloc] at h1 h2
  have q0 := (((Below.refl W.heap.size W).alloc (Nat.le_refl _) (.cells ca 31)).alloc (by simp) (.cells cb 31)).alloc (by simp; omega) (.cells cc 31)
  obtain ⟨V, hV⟩ : ∃ V, ((W.alloc (.cells ca 31)).alloc (.cells cb 31)).alloc (.cells cc 31) = V := ⟨_, rfl⟩
  rw [hV] at h0 h1 h2 q0
  have HA := Lib.hid h0
  have HB := Lib.hid h1
  have HC := Lib.hid h2
  have Q := Lib.hid q0
  have R := Lib.hid (Below.refl V.heap.size V)
  have HBD := Lib.hid BD
  have HX := Lib.hid hxyz
  have HU := Lib.hid hu
  clear h0 h1 h2 q0 BD hxyz hu
  go_enter Try.func4, Try.ntmps4
  go_wp2_with fail
  clear hV
  refine (AW.out V).mono ?_
  rintro _ w1 ⟨rfl, hb1⟩
  have R1 := Lib.hid hb1
  clear hb1 R
  have LA := Lib.hid (LDA.out _ _ (HA.out.later R1.out))
  have LB := Lib.hid (LDB.out _ _ (HB.out.later R1.out))
  go_wp2_with (first | (refine wpList_load_known rfl _ (.tmp 3) rfl _ rfl _ LA.out ?_) | (refine wpList_load_known rfl _ (.tmp 4) rfl _ rfl _ LB.out ?_))
  refine (OAB.out _).mono ?_
  rintro _ w2 ⟨rfl, hb2⟩
  have R2 := Lib.hid (R1.out.trans (hb2.mono R1.out.size))
  clear hb2 R1 LA LB
  have LB := Lib.hid (LDB.out _ _ (HB.out.later R2.out))
  have LC := Lib.hid (LDC.out _ _ (HC.out.later R2.out))
  go_wp2_with (first | (refine wpList_load_known rfl _ (.tmp 4) rfl _ rfl _ LB.out ?_) | (refine wpList_load_known rfl _ (.tmp 5) rfl _ rfl _ LC.out ?_))
  refine (OBC.out _).mono ?_
  rintro _ w3 ⟨rfl, hb3⟩
  have R3 := Lib.hid (R2.out.trans (hb3.mono R2.out.size))
  clear hb3 R2 LB LC
  have LA := Lib.hid (LDA.out _ _ (HA.out.later R3.out))
  have LC := Lib.hid (LDC.out _ _ (HC.out.later R3.out))
  go_wp2_with (first | (refine wpList_load_known rfl _ (.tmp 3) rfl _ rfl _ LA.out ?_) | (refine wpList_load_known rfl _ (.tmp 5) rfl _ rfl _ LC.out ?_))
  refine (OAC.out _).mono ?_
  rintro _ w4 ⟨rfl, hb4⟩
  have R4 := Lib.hid (R3.out.trans (hb4.mono R3.out.size))
  clear hb4 R3 LA LC
  have hxyz := HX.out
  clear HX
  simp only [List.mem_cons, Prod.mk.injEq, List.not_mem_nil, or_false] at hxyz
  rcases hxyz with ⟨rfl, rfl, rfl⟩ | ⟨rfl, rfl, rfl⟩ | ⟨rfl, rfl, rfl⟩ | ⟨rfl, rfl, rfl⟩ | ⟨rfl, rfl, rfl⟩
  all_goals (
    have LA := Lib.hid (LDA.out _ _ (HA.out.later R4.out))
    have LB := Lib.hid (LDB.out _ _ (HB.out.later R4.out))
    go_wp2_with (first | (refine wpList_load_known rfl _ (.tmp 4) rfl _ rfl _ LB.out ?_) | (refine wpList_load_known rfl _ (.tmp 3) rfl _ rfl _ LA.out ?_))
    refine (OBA.out _).mono ?_
    rintro _ w5 ⟨rfl, hb5⟩
    have R5 := Lib.hid (R4.out.trans (hb5.mono R4.out.size))
    clear hb5 R4 LB LA
    have LA := Lib.hid (LDA.out _ _ (HA.out.later R5.out))
    have LB := Lib.hid (LDB.out _ _ (HB.out.later R5.out))
    have LD := Lib.hid (LDD.out _ _ (HA.out.later R5.out))
    go_wp2_with (first | (refine wpList_load_known rfl _ (.tmp 3) rfl _ rfl _ LA.out ?_) | (refine wpList_load_known rfl _ (.tmp 4) rfl _ rfl _ LB.out ?_) | (refine wpList_load_known rfl _ (.tmp 71) rfl _ rfl _ LD.out ?_) | (refine wpList_build_at rfl (.tmp 72) rfl _ _ HBD.out rfl ?_))
    refine (ODA.out _).mono ?_
    rintro _ w6 ⟨rfl, hb6⟩
    have R6 := Lib.hid (R5.out.trans (hb6.mono R5.out.size))
    have QF := Lib.hid (Q.out.trans (R6.out.mono Q.out.size))
    clear hb6 LA LB LD
    rcases HU.out with rfl | rfl
    · go_wp2_with fail
      go_ret
      exact ⟨rfl, QF.out⟩
    · go_wp2_with fail
      go_ret
      exact ⟨rfl, QF.out⟩)
end Go.Proofs.Ytfnkmafdmfljmaa
