/- ShaApart: the walk, and the answer. -/
import Derived.Test.YtnjmhcooejcehaaDoorShaP
namespace Go.Proofs.YtnjmhcooejcehaaDoor
open Go Go.RowKit Go.Shelf
attribute [local go_sem] Oper.semAt_some Grows wide_fn eq4

theorem conv_backT {W : World} {g m cap : Nat} {t : TypeId} {A : Nat → Nat} (hA : ∀ j, A j < 256) (h : Has W g t (ubC m A)) : (convert 26 9 (.slice (some ⟨g, 0, none⟩) m cap)).run Tryd.prog W = .ok (.string ⟨((List.range m).map fun j => UInt8.ofNat (A j)).toArray⟩) W := by
  have hl : ((List.range m).map fun j => UInt8.ofNat (A j)).length = m := by simp
  have h2 := run_convert_bytes_back (P := Tryd.prog) W 26 9 5 ⟨g, 0, none⟩ cap ((List.range m).map fun j => UInt8.ofNat (A j)) Tryd.underlying26 Tryd.underlying5 Tryd.underlying9 (fun j hj => by
    have hj2 : j < m := by simpa using hj
    have hadd : (⟨g, 0, none⟩ : Addr).add j = ⟨g, j, none⟩ := by unfold Addr.add; split <;> simp_all
    rw [hadd, h.cell j _ (ubC_get m A j hj2)]
    congr 2
    simp only [List.getElem_map, List.getElem_range]
    rw [UInt8.toNat_ofNat', Nat.mod_eq_of_lt (show A j < 2 ^ 8 from hA j)])
  rw [hl] at h2
  exact h2

set_option maxRecDepth 100000 in
set_option maxHeartbeats 4000000 in
theorem apart_walk (z0 z1 z2 z3 x c l : Int) (k : Nat) (b2 b4 : Bool) (o zs : ByteArray) (hk : k < 9) (hc : (b2 || b4) = false → c = 0)
    (e2 : (z0 == 2 && z1 == 0 && z2 == 0 && z3 == 0) = b2) (e4 : (z0 == 4 && z1 == 0 && z2 == 0 && z3 == 0) = b4)
    (hstr : ∀ W : World, (convert 26 9 (.slice (some ⟨W.heap.size, 0, none⟩) (1048577 + k) (1048577 + k))).run Tryd.prog (W.alloc (.cells (ubC (1048577 + k) fun _ => 0) 5)) = .ok (.string zs) (W.alloc (.cells (ubC (1048577 + k) fun _ => 0) 5)))
    (h0 : RetT Tryd.prog 8 #[] (.bool true)) (hp : Ret Tryd.prog 9 #[.int .i64 x, .int .i64 9] (.int .i64 (k : Int))) (o2 : Ret Tryd.prog 12 #[.int .i64 2] (W4 2 0 0 0)) (o4 : Ret Tryd.prog 12 #[.int .i64 4] (W4 4 0 0 0))
    (c1 : Ret Tryd.prog 13 #[W4 z0 z1 z2 z3, .int .i64 (k : Int)] (.tuple #[.int .i64 c, .bool (b2 || b4)])) (r1 : RetT Tryd.prog 15 #[W4 z0 z1 z2 z3, .string ⟨#[116, 101, 120, 116]⟩, .int .i64 100000] (.tuple #[.string o, .int .i64 l, .bool (b2 || b4)]))
    (r2 : Ret Tryd.prog 15 #[W4 4 0 0 0, .string ⟨#[]⟩, .int .i64 (-1 - (k : Int))] (.tuple #[.string ⟨#[]⟩, .int .i64 0, .bool false])) (c2 : Ret Tryd.prog 13 #[W4 2 0 0 0, .int .i64 (1048577 + (k : Int))] (.tuple #[.int .i64 0, .bool false])) (c3 : Ret Tryd.prog 13 #[W4 2 0 0 0, .int .i64 (-1 - (k : Int))] (.tuple #[.int .i64 0, .bool false]))
    (g0 : Ret Tryd.prog 10 #[.string zs] (.tuple #[.string ⟨#[]⟩, .int .i64 2])) :
    RetT Tryd.prog 6 #[W4 z0 z1 z2 z3, .int .i64 x] (.bool true) := by
  intro w HT0
  have H0 := Lib.hid h0
  have HP := Lib.hid hp
  have O2 := Lib.hid o2
  have O4 := Lib.hid o4
  have C1 := Lib.hid c1
  have R1 := Lib.hid r1
  have R2 := Lib.hid r2
  have C2 := Lib.hid c2
  have C3 := Lib.hid c3
  have G0 := Lib.hid g0
  have HSTR := Lib.hid hstr
  clear h0 hp o2 o4 c1 r1 r2 c2 c3 g0 hstr
  have hmx : Tryd.prog.follows .mixedOrders = true := by kernel_rfl
  have HL := Lib.hid (Has.new w 24 #[.int .u64 z0, .int .u64 z1, .int .u64 z2, .int .u64 z3])
  have HT := Lib.hid (HT0.alloc (.cells #[.int .u64 z0, .int .u64 z1, .int .u64 z2, .int .u64 z3] 24))
  have Q := Lib.hid ((Below.refl w.heap.size w).alloc (Nat.le_refl _) (.cells #[.int .u64 z0, .int .u64 z1, .int .u64 z2, .int .u64 z3] 24))
  have hkI : (k : Int) < 9 := by omega
  have hk0 : (0 : Int) ≤ (k : Int) := by omega
  clear HT0
  go_enter Tryd.func6, Tryd.ntmps6
  go_wp2_with fail
  refine (H0.out _ HT.out).mono ?_
  rintro e w1 ⟨rfl, q⟩
  replace HT := Lib.hid (HT.out.later q)
  replace Q := Lib.hid (Q.out.trans (q.mono Q.out.size))
  replace HL := Lib.hid (HL.out.later q)
  clear q
  go_wp2_with fail
  refine (HP.out _).mono ?_
  rintro e w2 ⟨rfl, q⟩
  replace HT := Lib.hid (HT.out.later q)
  replace Q := Lib.hid (Q.out.trans (q.mono Q.out.size))
  replace HL := Lib.hid (HL.out.later q)
  clear q
  have k0 := HL.out.cell 0 _ rfl
  have k1 := HL.out.cell 1 _ rfl
  have k2 := HL.out.cell 2 _ rfl
  have k3 := HL.out.cell 3 _ rfl
  go_wp2_with fail
  refine (C1.out _).mono ?_
  rintro e w3 ⟨rfl, q⟩
  replace HT := Lib.hid (HT.out.later q)
  replace Q := Lib.hid (Q.out.trans (q.mono Q.out.size))
  replace HL := Lib.hid (HL.out.later q)
  clear q
  clear k0 k1 k2 k3
  cases b2 with
  | true =>
    simp only [Bool.true_or] at *
    clear e4 hc
    have k0 : ∀ x : Ext w3, x.w.cell? ⟨w.heap.size, 0, none⟩ = some (.int .u64 z0) := fun x => (HL.out.later x.below).cell 0 _ rfl
    have k1 : ∀ x : Ext w3, x.w.cell? ⟨w.heap.size, 1, none⟩ = some (.int .u64 z1) := fun x => (HL.out.later x.below).cell 1 _ rfl
    have k2 : ∀ x : Ext w3, x.w.cell? ⟨w.heap.size, 2, none⟩ = some (.int .u64 z2) := fun x => (HL.out.later x.below).cell 2 _ rfl
    have k3 : ∀ x : Ext w3, x.w.cell? ⟨w.heap.size, 3, none⟩ = some (.int .u64 z3) := fun x => (HL.out.later x.below).cell 3 _ rfl
    go_wp2_with fail
    try simp only [List.append]
    refine wp_region_quietL (C := Grows w3) hmx (by kernel_rfl) (grows_refl w3) ?_
    repeat (go_big_quiet_step (first | (with_reducible exact Ret.at O2.out _) | (with_reducible exact Ret.at O4.out _)))
    refine wpQuiet_nil ?_
    rintro _ ⟨y, rfl⟩
    replace HL := Lib.hid (HL.out.later y.below)
    replace HT := Lib.hid (HT.out.later y.below)
    replace Q := Lib.hid (Q.out.trans (y.below.mono Q.out.size))
    clear k0 k1 k2 k3
    obtain ⟨w4, hw4⟩ : ∃ w4, y.w = w4 := ⟨_, rfl⟩
    rw [hw4] at HL HT Q ⊢
    clear hw4 y
    have k0 := HL.out.cell 0 _ rfl
    have k1 := HL.out.cell 1 _ rfl
    have k2 := HL.out.cell 2 _ rfl
    have k3 := HL.out.cell 3 _ rfl
    go_wp2_with fail
    refine (R1.out _ HT.out).mono ?_
    rintro e w5 ⟨rfl, q⟩
    replace HT := Lib.hid (HT.out.later q)
    replace Q := Lib.hid (Q.out.trans (q.mono Q.out.size))
    replace HL := Lib.hid (HL.out.later q)
    clear q
    clear k0 k1 k2 k3
    go_wp2_with fail
    refine (O4.out _).mono ?_
    rintro e w6 ⟨rfl, q⟩
    replace HT := Lib.hid (HT.out.later q)
    replace Q := Lib.hid (Q.out.trans (q.mono Q.out.size))
    clear q
    go_wp2_with fail
    refine (R2.out _).mono ?_
    rintro e w7 ⟨rfl, q⟩
    replace HT := Lib.hid (HT.out.later q)
    replace Q := Lib.hid (Q.out.trans (q.mono Q.out.size))
    clear q
    go_wp2_with fail
    refine (O2.out _).mono ?_
    rintro e w8 ⟨rfl, q⟩
    replace HT := Lib.hid (HT.out.later q)
    replace Q := Lib.hid (Q.out.trans (q.mono Q.out.size))
    clear q
    go_wp2_with fail
    refine (C2.out _).mono ?_
    rintro e w9 ⟨rfl, q⟩
    replace HT := Lib.hid (HT.out.later q)
    replace Q := Lib.hid (Q.out.trans (q.mono Q.out.size))
    clear q
    go_wp2_with fail
    refine (O2.out _).mono ?_
    rintro e w10 ⟨rfl, q⟩
    replace HT := Lib.hid (HT.out.later q)
    replace Q := Lib.hid (Q.out.trans (q.mono Q.out.size))
    clear q
    go_wp2_with fail
    refine (C3.out _).mono ?_
    rintro e w11 ⟨rfl, q⟩
    replace HT := Lib.hid (HT.out.later q)
    replace Q := Lib.hid (Q.out.trans (q.mono Q.out.size))
    clear q
    have hm1 := run_mkB w11 (1048577 + k) (by omega)
    rw [show ((1048577 + k : Nat) : Int) = 1048577 + (k : Int) by omega] at hm1
    have hc1 := HSTR.out w11
    replace Q := Lib.hid (Q.out.alloc Q.out.size (.cells (ubC (1048577 + k) fun _ => 0) 5))
    replace HT := Lib.hid (HT.out.alloc (.cells (ubC (1048577 + k) fun _ => 0) 5))
    obtain ⟨W1, hW1⟩ : ∃ W1, w11.alloc (.cells (ubC (1048577 + k) fun _ => 0) 5) = W1 := ⟨_, rfl⟩
    rw [hW1] at hm1 hc1 Q HT
    clear hW1 HSTR
    generalize 1048577 + k = big at *
    go_wp2_with fail
    refine (G0.out _).mono ?_
    rintro e w12 ⟨rfl, q⟩
    replace HT := Lib.hid (HT.out.later q)
    replace Q := Lib.hid (Q.out.trans (q.mono Q.out.size))
    clear q
    clear hm1 hc1
    go_wp2
    go_ret
    exact ⟨rfl, Q.out⟩
  | false =>
    cases b4 with
    | true =>
      simp only [Bool.false_or, Bool.or_true] at *
      clear hc
      have k0 : ∀ x : Ext w3, x.w.cell? ⟨w.heap.size, 0, none⟩ = some (.int .u64 z0) := fun x => (HL.out.later x.below).cell 0 _ rfl
      have k1 : ∀ x : Ext w3, x.w.cell? ⟨w.heap.size, 1, none⟩ = some (.int .u64 z1) := fun x => (HL.out.later x.below).cell 1 _ rfl
      have k2 : ∀ x : Ext w3, x.w.cell? ⟨w.heap.size, 2, none⟩ = some (.int .u64 z2) := fun x => (HL.out.later x.below).cell 2 _ rfl
      have k3 : ∀ x : Ext w3, x.w.cell? ⟨w.heap.size, 3, none⟩ = some (.int .u64 z3) := fun x => (HL.out.later x.below).cell 3 _ rfl
      go_wp2_with fail
      try simp only [List.append]
      refine wp_region_quietL (C := Grows w3) hmx (by kernel_rfl) (grows_refl w3) ?_
      repeat (go_big_quiet_step (first | (with_reducible exact Ret.at O2.out _) | (with_reducible exact Ret.at O4.out _)))
      refine wpQuiet_nil ?_
      rintro _ ⟨y, rfl⟩
      replace HL := Lib.hid (HL.out.later y.below)
      replace HT := Lib.hid (HT.out.later y.below)
      replace Q := Lib.hid (Q.out.trans (y.below.mono Q.out.size))
      clear k0 k1 k2 k3
      obtain ⟨w4, hw4⟩ : ∃ w4, y.w = w4 := ⟨_, rfl⟩
      rw [hw4] at HL HT Q ⊢
      clear hw4 y
      have k0 := HL.out.cell 0 _ rfl
      have k1 := HL.out.cell 1 _ rfl
      have k2 := HL.out.cell 2 _ rfl
      have k3 := HL.out.cell 3 _ rfl
      go_wp2_with fail
      refine (R1.out _ HT.out).mono ?_
      rintro e w5 ⟨rfl, q⟩
      replace HT := Lib.hid (HT.out.later q)
      replace Q := Lib.hid (Q.out.trans (q.mono Q.out.size))
      replace HL := Lib.hid (HL.out.later q)
      clear q
      clear k0 k1 k2 k3
      go_wp2_with fail
      refine (O4.out _).mono ?_
      rintro e w6 ⟨rfl, q⟩
      replace HT := Lib.hid (HT.out.later q)
      replace Q := Lib.hid (Q.out.trans (q.mono Q.out.size))
      clear q
      go_wp2_with fail
      refine (R2.out _).mono ?_
      rintro e w7 ⟨rfl, q⟩
      replace HT := Lib.hid (HT.out.later q)
      replace Q := Lib.hid (Q.out.trans (q.mono Q.out.size))
      clear q
      go_wp2_with fail
      refine (O2.out _).mono ?_
      rintro e w8 ⟨rfl, q⟩
      replace HT := Lib.hid (HT.out.later q)
      replace Q := Lib.hid (Q.out.trans (q.mono Q.out.size))
      clear q
      go_wp2_with fail
      refine (C2.out _).mono ?_
      rintro e w9 ⟨rfl, q⟩
      replace HT := Lib.hid (HT.out.later q)
      replace Q := Lib.hid (Q.out.trans (q.mono Q.out.size))
      clear q
      go_wp2_with fail
      refine (O2.out _).mono ?_
      rintro e w10 ⟨rfl, q⟩
      replace HT := Lib.hid (HT.out.later q)
      replace Q := Lib.hid (Q.out.trans (q.mono Q.out.size))
      clear q
      go_wp2_with fail
      refine (C3.out _).mono ?_
      rintro e w11 ⟨rfl, q⟩
      replace HT := Lib.hid (HT.out.later q)
      replace Q := Lib.hid (Q.out.trans (q.mono Q.out.size))
      clear q
      have hm1 := run_mkB w11 (1048577 + k) (by omega)
      rw [show ((1048577 + k : Nat) : Int) = 1048577 + (k : Int) by omega] at hm1
      have hc1 := HSTR.out w11
      replace Q := Lib.hid (Q.out.alloc Q.out.size (.cells (ubC (1048577 + k) fun _ => 0) 5))
      replace HT := Lib.hid (HT.out.alloc (.cells (ubC (1048577 + k) fun _ => 0) 5))
      obtain ⟨W1, hW1⟩ : ∃ W1, w11.alloc (.cells (ubC (1048577 + k) fun _ => 0) 5) = W1 := ⟨_, rfl⟩
      rw [hW1] at hm1 hc1 Q HT
      clear hW1 HSTR
      generalize 1048577 + k = big at *
      go_wp2_with fail
      refine (G0.out _).mono ?_
      rintro e w12 ⟨rfl, q⟩
      replace HT := Lib.hid (HT.out.later q)
      replace Q := Lib.hid (Q.out.trans (q.mono Q.out.size))
      clear q
      clear hm1 hc1
      go_wp2
      go_ret
      exact ⟨rfl, Q.out⟩
    | false =>
      obtain rfl : c = 0 := hc rfl
      simp only [Bool.false_or, Bool.or_false] at *
      clear hc
      have k0 : ∀ x : Ext w3, x.w.cell? ⟨w.heap.size, 0, none⟩ = some (.int .u64 z0) := fun x => (HL.out.later x.below).cell 0 _ rfl
      have k1 : ∀ x : Ext w3, x.w.cell? ⟨w.heap.size, 1, none⟩ = some (.int .u64 z1) := fun x => (HL.out.later x.below).cell 1 _ rfl
      have k2 : ∀ x : Ext w3, x.w.cell? ⟨w.heap.size, 2, none⟩ = some (.int .u64 z2) := fun x => (HL.out.later x.below).cell 2 _ rfl
      have k3 : ∀ x : Ext w3, x.w.cell? ⟨w.heap.size, 3, none⟩ = some (.int .u64 z3) := fun x => (HL.out.later x.below).cell 3 _ rfl
      go_wp2_with fail
      try simp only [List.append]
      refine wp_region_quietL (C := Grows w3) hmx (by kernel_rfl) (grows_refl w3) ?_
      repeat (go_big_quiet_step (first | (with_reducible exact Ret.at O2.out _) | (with_reducible exact Ret.at O4.out _)))
      refine wpQuiet_nil ?_
      rintro _ ⟨y, rfl⟩
      replace HL := Lib.hid (HL.out.later y.below)
      replace HT := Lib.hid (HT.out.later y.below)
      replace Q := Lib.hid (Q.out.trans (y.below.mono Q.out.size))
      clear k0 k1 k2 k3
      obtain ⟨w4, hw4⟩ : ∃ w4, y.w = w4 := ⟨_, rfl⟩
      rw [hw4] at HL HT Q ⊢
      clear hw4 y
      have k0 := HL.out.cell 0 _ rfl
      have k1 := HL.out.cell 1 _ rfl
      have k2 := HL.out.cell 2 _ rfl
      have k3 := HL.out.cell 3 _ rfl
      go_wp2_with fail
      refine (R1.out _ HT.out).mono ?_
      rintro e w5 ⟨rfl, q⟩
      replace HT := Lib.hid (HT.out.later q)
      replace Q := Lib.hid (Q.out.trans (q.mono Q.out.size))
      replace HL := Lib.hid (HL.out.later q)
      clear q
      clear k0 k1 k2 k3
      go_wp2_with fail
      refine (O4.out _).mono ?_
      rintro e w6 ⟨rfl, q⟩
      replace HT := Lib.hid (HT.out.later q)
      replace Q := Lib.hid (Q.out.trans (q.mono Q.out.size))
      clear q
      go_wp2_with fail
      refine (R2.out _).mono ?_
      rintro e w7 ⟨rfl, q⟩
      replace HT := Lib.hid (HT.out.later q)
      replace Q := Lib.hid (Q.out.trans (q.mono Q.out.size))
      clear q
      go_wp2_with fail
      refine (O2.out _).mono ?_
      rintro e w8 ⟨rfl, q⟩
      replace HT := Lib.hid (HT.out.later q)
      replace Q := Lib.hid (Q.out.trans (q.mono Q.out.size))
      clear q
      go_wp2_with fail
      refine (C2.out _).mono ?_
      rintro e w9 ⟨rfl, q⟩
      replace HT := Lib.hid (HT.out.later q)
      replace Q := Lib.hid (Q.out.trans (q.mono Q.out.size))
      clear q
      go_wp2_with fail
      refine (O2.out _).mono ?_
      rintro e w10 ⟨rfl, q⟩
      replace HT := Lib.hid (HT.out.later q)
      replace Q := Lib.hid (Q.out.trans (q.mono Q.out.size))
      clear q
      go_wp2_with fail
      refine (C3.out _).mono ?_
      rintro e w11 ⟨rfl, q⟩
      replace HT := Lib.hid (HT.out.later q)
      replace Q := Lib.hid (Q.out.trans (q.mono Q.out.size))
      clear q
      have hm1 := run_mkB w11 (1048577 + k) (by omega)
      rw [show ((1048577 + k : Nat) : Int) = 1048577 + (k : Int) by omega] at hm1
      have hc1 := HSTR.out w11
      replace Q := Lib.hid (Q.out.alloc Q.out.size (.cells (ubC (1048577 + k) fun _ => 0) 5))
      replace HT := Lib.hid (HT.out.alloc (.cells (ubC (1048577 + k) fun _ => 0) 5))
      obtain ⟨W1, hW1⟩ : ∃ W1, w11.alloc (.cells (ubC (1048577 + k) fun _ => 0) 5) = W1 := ⟨_, rfl⟩
      rw [hW1] at hm1 hc1 Q HT
      clear hW1 HSTR
      generalize 1048577 + k = big at *
      go_wp2_with fail
      refine (G0.out _).mono ?_
      rintro e w12 ⟨rfl, q⟩
      replace HT := Lib.hid (HT.out.later q)
      replace Q := Lib.hid (Q.out.trans (q.mono Q.out.size))
      clear q
      clear hm1 hc1
      go_wp2
      go_ret
      exact ⟨rfl, Q.out⟩

theorem sApart_ret (a : Nat) (x : Int) (ha : W256 a) (hx : I64 x) : RetT Tryd.prog 6 #[wv a, .int .i64 x] (.bool true) := by
  obtain ⟨h0, h1⟩ := pickN_range x 9 (by omega)
  obtain ⟨k, hk⟩ : ∃ k : Nat, pickN x 9 = (k : Int) := ⟨(pickN x 9).toNat, by omega⟩
  have hp := pick_ret x hx 9 (by omega) (by omega)
  rw [hk] at hp h0 h1
  have hstr := fun W : World => conv_backT (W := W.alloc (.cells (ubC (1048577 + k) fun _ => 0) 5)) (g := W.heap.size) (m := 1048577 + k) (cap := 1048577 + k) (A := fun _ => 0) (fun _ => by omega) (Has.new W 5 _)
  have hz : (⟨((List.range (1048577 + k)).map fun _ => UInt8.ofNat 0).toArray⟩ : ByteArray).size = 1048577 + k := by
    show ((List.range (1048577 + k)).map fun _ => UInt8.ofNat 0).toArray.size = _
    simp
  have g0 := sum_long _ (show 1048576 < (⟨((List.range (1048577 + k)).map fun _ => UInt8.ofNat 0).toArray⟩ : ByteArray).size by omega)
  generalize (⟨((List.range (1048577 + k)).map fun _ => UInt8.ofNat 0).toArray⟩ : ByteArray) = zs at *
  have E2 := eq_small a 2 ha (by omega)
  have E4 := eq_small a 4 ha (by omega)
  have r2 := run_four_no ⟨#[]⟩ (by decide) (-1 - (k : Int)) (by omega)
  have c2 := cost_out 2 0 0 0 (1048577 + (k : Int)) (.inr (by omega)) (by unfold I64; omega)
  have c3 := cost_out 2 0 0 0 (-1 - (k : Int)) (.inl (by omega)) (by unfold I64; omega)
  by_cases e2 : a = 2
  · subst e2
    exact apart_walk _ _ _ _ x (60 + 12 * (pcs k : Int)) _ k true false (sumS ⟨#[116, 101, 120, 116]⟩) zs (by omega) (fun h => by cases h) E2 E4 hstr awake_ret hp (refOf_small 2 (by omega)) (refOf_small 4 (by omega))
      (cost_two k (by omega)) (run_two ⟨#[116, 101, 120, 116]⟩ (by decide) 100000 (by decide) (by unfold I64; omega)) r2 c2 c3 g0
  · by_cases e4 : a = 4
    · subst e4
      exact apart_walk _ _ _ _ x (15 + 3 * (pcs k : Int)) _ k false true ⟨#[116, 101, 120, 116]⟩ zs (by omega) (fun h => by cases h) E2 E4 hstr awake_ret hp (refOf_small 2 (by omega)) (refOf_small 4 (by omega))
        (cost_four k (by omega)) (run_four ⟨#[116, 101, 120, 116]⟩ (by decide) 100000 (by decide) (by unfold I64; omega)) r2 c2 c3 g0
    · exact apart_walk _ _ _ _ x 0 0 k false false ⟨#[]⟩ zs (by omega) (fun _ => rfl) (E2.trans (decide_eq_false e2)) (E4.trans (decide_eq_false e4)) hstr awake_ret hp (refOf_small 2 (by omega)) (refOf_small 4 (by omega))
        (cost_else a k ha e2 e4 (by omega)) (run_else a ha e2 e4 ⟨#[116, 101, 120, 116]⟩ (by decide) 100000).toT r2 c2 c3 g0
end Go.Proofs.YtnjmhcooejcehaaDoor
