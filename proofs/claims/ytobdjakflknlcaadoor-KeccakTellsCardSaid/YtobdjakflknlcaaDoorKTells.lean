/- KeccakTells: the walk, and the answer. -/
import Derived.Test.YtobdjakflknlcaaDoorKecE5
import Derived.Test.YtobdjakflknlcaaDoorKRefK
namespace Go.Proofs.YtobdjakflknlcaaDoor
open Go Go.RowKit Go.Shelf
attribute [local go_sem] Oper.semAt_some Grows wide_fn field0 eq25

theorem quiet_loadB {W : World} {o : Oper} {a : Act} {K : Act → Prop} (ty : TypeId) (x : Operand) (ho : o.op = .load ty x) (B : Nat) (hx : a.eval x = .pointer (some ⟨B, 0, none⟩)) (cs : Array Value) (hr : ∀ y : Ext W, (loadVar ty ⟨B, 0, none⟩).run Tryd.prog y.w = .ok (.agg cs) y.w) (h : K (a.put o.dst (.agg cs))) : o.quiet Tryd.prog a (Grows W) K :=
  ⟨.agg cs, fun w hw => by
    obtain ⟨y, rfl⟩ := hw
    unfold Oper.quietAt execOp
    simp only [ho, hx, Instr.loadAt, Instr.sureAddr, Sem.run_bind, Sem.run_pure, Result.andThen_ok, hr y]
    exact ⟨rfl, rfl⟩, h⟩

set_option maxRecDepth 100000 in
set_option maxHeartbeats 16000000 in
theorem tells_walk (A P : Nat → Nat) (s x zs hx hz px pz : ByteArray) (n : Int) (k : Nat) (hk : k < 300) (hsz : s.size ≤ 140737488355328) (hx1 : s.size ≤ 600 → x = s) (hx2 : 600 < s.size → s.extract 0 600 = x) (heP : eqL P P = true)
    (hstr : ∀ W : World, (convert 27 9 (.slice (some ⟨W.heap.size, 0, none⟩) k k)).run Tryd.prog (W.alloc (.cells (ubC k fun _ => 0) 5)) = .ok (.string zs) (W.alloc (.cells (ubC k fun _ => 0) 5)))
    (h1 : RetT Tryd.prog 5 #[.agg (luC 25 A)] (.agg (luC 25 P))) (h2 : Ret Tryd.prog 6 #[.agg (luC 25 A)] (.agg (luC 25 P)))
    (hp : Ret Tryd.prog 7 #[.int .i64 n, .int .i64 300] (.int .i64 (k : Int)))
    (sx : RetT Tryd.prog 8 #[.string x] (.tuple #[.string hx, .int .i64 0])) (rx : Ret Tryd.prog 9 #[.string x] (.tuple #[.string hx, .int .i64 0]))
    (sz : RetT Tryd.prog 8 #[.string zs] (.tuple #[.string hz, .int .i64 0])) (rz : Ret Tryd.prog 9 #[.string zs] (.tuple #[.string hz, .int .i64 0]))
    (qx : Ret Tryd.prog 10 #[.string x] (.string px)) (ux : Ret Tryd.prog 11 #[.string x] (.string px))
    (qz : Ret Tryd.prog 10 #[.string zs] (.string pz)) (uz : Ret Tryd.prog 11 #[.string zs] (.string pz)) :
    RetT Tryd.prog 3 #[.agg (luC 25 A), .string s, .int .i64 n] (.bool true) := by
  intro w HT0
  have H0 := Lib.hid awake_ret
  have H1 := Lib.hid h1
  have H2 := Lib.hid h2
  have HP := Lib.hid hp
  have SX := Lib.hid sx
  have RX := Lib.hid rx
  have SZ := Lib.hid sz
  have RZ := Lib.hid rz
  have QX := Lib.hid qx
  have UX := Lib.hid ux
  have QZ := Lib.hid qz
  have UZ := Lib.hid uz
  have HSTR := Lib.hid hstr
  have HX1 := Lib.hid hx1
  have HX2 := Lib.hid hx2
  clear h1 h2 hp sx rx sz rz qx ux qz uz hstr hx1 hx2
  have HL := Lib.hid (Has.new w 24 (luC 25 A))
  have HT := Lib.hid (HT0.alloc (.cells (luC 25 A) 24))
  have Q := Lib.hid ((Below.refl w.heap.size w).alloc (Nat.le_refl _) (.cells (luC 25 A) 24))
  have hsI : (s.size : Int) ≤ 140737488355328 := by omega
  have hkI : (k : Int) < 300 := by omega
  clear HT0
  go_enter Tryd.func3, Tryd.ntmps3
  go_wp2_with fail
  refine (H0.out _ HT.out).mono ?_
  rintro e w1 ⟨rfl, q⟩
  replace HT := Lib.hid (HT.out.later q)
  replace Q := Lib.hid (Q.out.trans (q.mono Q.out.size))
  replace HL := Lib.hid (HL.out.later q)
  clear q
  clear H0
  have HA : Hid (∀ y : Ext w1, (loadVar 24 ⟨w.heap.size, 0, none⟩).run Tryd.prog y.w = .ok (.agg (luC 25 A)) y.w) := Lib.hid (fun y => load25 (HL.out.later y.below))
  go_wp2_with fail
  try simp only [List.append]
  refine wp_region_quick (C := Grows w1) (by kernel_rfl) (by kernel_rfl) (by kernel_rfl) (grows_refl w1) ?_
  repeat (first | (go_big_quiet_want; refine quiet_loadB _ _ rfl w.heap.size rfl _ HA.out ?_; simp only [Act.put, List.setIfInBounds_toArray, List.set_cons_succ, List.set_cons_zero]; go_big_quiet_on) | go_big_quiet_step (first | (with_reducible exact RetT.at H1.out HT.out _) | (with_reducible exact Ret.at H2.out _)))
  refine wpQuiet_nil ?_
  rintro _ ⟨y, rfl⟩
  replace HT := Lib.hid (HT.out.later y.below)
  replace Q := Lib.hid (Q.out.trans (y.below.mono Q.out.size))
  clear HA HL H1 H2
  obtain ⟨w2, hw2⟩ : ∃ w2, y.w = w2 := ⟨_, rfl⟩
  rw [hw2] at HT Q ⊢
  clear hw2 y
  by_cases hs : 600 < s.size
  · have hsc : (600 : Int) < (s.size : Int) := by omega
    have hcut := HX2.out hs
    clear HX1 HX2 hs hsz
    go_wp2_with fail
    refine (HP.out _).mono ?_
    rintro e w3 ⟨rfl, q⟩
    replace HT := Lib.hid (HT.out.later q)
    replace Q := Lib.hid (Q.out.trans (q.mono Q.out.size))
    clear q
    have hm1 := run_mkB w3 k (by omega)
    have hc1 := HSTR.out w3
    replace Q := Lib.hid (Q.out.alloc Q.out.size (.cells (ubC k fun _ => 0) 5))
    replace HT := Lib.hid (HT.out.alloc (.cells (ubC k fun _ => 0) 5))
    obtain ⟨W1, hW1⟩ : ∃ W1, w3.alloc (.cells (ubC k fun _ => 0) 5) = W1 := ⟨_, rfl⟩
    rw [hW1] at hm1 hc1 Q HT
    clear hW1 HSTR
    have HB := Lib.hid (Has.new W1 9 #[.string x, .string zs])
    replace Q := Lib.hid (Q.out.alloc Q.out.size (.cells #[.string x, .string zs] 9))
    replace HT := Lib.hid (HT.out.alloc (.cells #[.string x, .string zs] 9))
    go_wp2_with fail
    clear hm1 hc1
    obtain ⟨W2, hW2⟩ : ∃ W2, W1.alloc (.cells #[.string x, .string zs] 9) = W2 := ⟨_, rfl⟩
    rw [hW2] at HB HT Q ⊢
    clear hW2
    generalize W1.heap.size = B at *
    go_loopw [36] (fun i wr => ∃ k : Nat, k ≤ 2 ∧ i = .int .i64 (k : Int) ∧ Tab wr ∧ Has wr B 9 #[.string x, .string zs] ∧ Below w.heap.size w wr) (fun i _ => 2 - (intOf i).toNat)
    case atStart => exact ⟨0, by omega, rfl, HT.out, HB.out, Q.out⟩
    case round =>
      clear HT HB Q
      obtain ⟨j, hj, rfl, HT, HB, Q⟩ := hrel
      replace HT := Lib.hid HT
      replace HB := Lib.hid HB
      replace Q := Lib.hid Q
      rcases (show j = 0 ∨ j = 1 ∨ j = 2 by omega) with rfl | rfl | rfl
      · have kd := HB.out.cell 0 _ rfl
        simp only [Int.cast_ofNat_Int]
        go_wp2_with fail
        refine (SX.out _ HT.out).mono ?_
        rintro e w9 ⟨rfl, q⟩
        replace HT := Lib.hid (HT.out.later q)
        replace Q := Lib.hid (Q.out.trans (q.mono Q.out.size))
        replace HB := Lib.hid (HB.out.later q)
        clear q
        clear kd
        go_wp2_with fail
        refine (RX.out _).mono ?_
        rintro e w10 ⟨rfl, q⟩
        replace HT := Lib.hid (HT.out.later q)
        replace Q := Lib.hid (Q.out.trans (q.mono Q.out.size))
        replace HB := Lib.hid (HB.out.later q)
        clear q
        go_wp2_with fail
        refine (QX.out _).mono ?_
        rintro e w11 ⟨rfl, q⟩
        replace HT := Lib.hid (HT.out.later q)
        replace Q := Lib.hid (Q.out.trans (q.mono Q.out.size))
        replace HB := Lib.hid (HB.out.later q)
        clear q
        go_wp2_with fail
        refine (UX.out _).mono ?_
        rintro e w12 ⟨rfl, q⟩
        replace HT := Lib.hid (HT.out.later q)
        replace Q := Lib.hid (Q.out.trans (q.mono Q.out.size))
        replace HB := Lib.hid (HB.out.later q)
        clear q
        go_wp2_with fail
        go_roundw
        case rel => exact ⟨1, by omega, by simp, HT.out, HB.out, Q.out⟩
        case measure => simp [intOf]
      · have kd := HB.out.cell 1 _ rfl
        simp only [Int.cast_ofNat_Int]
        go_wp2_with fail
        refine (SZ.out _ HT.out).mono ?_
        rintro e w9 ⟨rfl, q⟩
        replace HT := Lib.hid (HT.out.later q)
        replace Q := Lib.hid (Q.out.trans (q.mono Q.out.size))
        replace HB := Lib.hid (HB.out.later q)
        clear q
        clear kd
        go_wp2_with fail
        refine (RZ.out _).mono ?_
        rintro e w10 ⟨rfl, q⟩
        replace HT := Lib.hid (HT.out.later q)
        replace Q := Lib.hid (Q.out.trans (q.mono Q.out.size))
        replace HB := Lib.hid (HB.out.later q)
        clear q
        go_wp2_with fail
        refine (QZ.out _).mono ?_
        rintro e w11 ⟨rfl, q⟩
        replace HT := Lib.hid (HT.out.later q)
        replace Q := Lib.hid (Q.out.trans (q.mono Q.out.size))
        replace HB := Lib.hid (HB.out.later q)
        clear q
        go_wp2_with fail
        refine (UZ.out _).mono ?_
        rintro e w12 ⟨rfl, q⟩
        replace HT := Lib.hid (HT.out.later q)
        replace Q := Lib.hid (Q.out.trans (q.mono Q.out.size))
        replace HB := Lib.hid (HB.out.later q)
        clear q
        go_wp2_with fail
        go_roundw
        case rel => exact ⟨2, by omega, by simp, HT.out, HB.out, Q.out⟩
        case measure => simp [intOf]
      · simp only [Int.cast_ofNat_Int]
        go_wp2_with fail
        go_ret
        exact ⟨rfl, Q.out⟩
  · have hsc : ¬ (600 : Int) < (s.size : Int) := by omega
    obtain rfl : x = s := HX1.out (by omega)
    clear HX1 HX2 hs hsz
    go_wp2_with fail
    refine (HP.out _).mono ?_
    rintro e w3 ⟨rfl, q⟩
    replace HT := Lib.hid (HT.out.later q)
    replace Q := Lib.hid (Q.out.trans (q.mono Q.out.size))
    clear q
    have hm1 := run_mkB w3 k (by omega)
    have hc1 := HSTR.out w3
    replace Q := Lib.hid (Q.out.alloc Q.out.size (.cells (ubC k fun _ => 0) 5))
    replace HT := Lib.hid (HT.out.alloc (.cells (ubC k fun _ => 0) 5))
    obtain ⟨W1, hW1⟩ : ∃ W1, w3.alloc (.cells (ubC k fun _ => 0) 5) = W1 := ⟨_, rfl⟩
    rw [hW1] at hm1 hc1 Q HT
    clear hW1 HSTR
    have HB := Lib.hid (Has.new W1 9 #[.string x, .string zs])
    replace Q := Lib.hid (Q.out.alloc Q.out.size (.cells #[.string x, .string zs] 9))
    replace HT := Lib.hid (HT.out.alloc (.cells #[.string x, .string zs] 9))
    go_wp2_with fail
    clear hm1 hc1
    obtain ⟨W2, hW2⟩ : ∃ W2, W1.alloc (.cells #[.string x, .string zs] 9) = W2 := ⟨_, rfl⟩
    rw [hW2] at HB HT Q ⊢
    clear hW2
    generalize W1.heap.size = B at *
    go_loopw [36] (fun i wr => ∃ k : Nat, k ≤ 2 ∧ i = .int .i64 (k : Int) ∧ Tab wr ∧ Has wr B 9 #[.string x, .string zs] ∧ Below w.heap.size w wr) (fun i _ => 2 - (intOf i).toNat)
    case atStart => exact ⟨0, by omega, rfl, HT.out, HB.out, Q.out⟩
    case round =>
      clear HT HB Q
      obtain ⟨j, hj, rfl, HT, HB, Q⟩ := hrel
      replace HT := Lib.hid HT
      replace HB := Lib.hid HB
      replace Q := Lib.hid Q
      rcases (show j = 0 ∨ j = 1 ∨ j = 2 by omega) with rfl | rfl | rfl
      · have kd := HB.out.cell 0 _ rfl
        simp only [Int.cast_ofNat_Int]
        go_wp2_with fail
        refine (SX.out _ HT.out).mono ?_
        rintro e w9 ⟨rfl, q⟩
        replace HT := Lib.hid (HT.out.later q)
        replace Q := Lib.hid (Q.out.trans (q.mono Q.out.size))
        replace HB := Lib.hid (HB.out.later q)
        clear q
        clear kd
        go_wp2_with fail
        refine (RX.out _).mono ?_
        rintro e w10 ⟨rfl, q⟩
        replace HT := Lib.hid (HT.out.later q)
        replace Q := Lib.hid (Q.out.trans (q.mono Q.out.size))
        replace HB := Lib.hid (HB.out.later q)
        clear q
        go_wp2_with fail
        refine (QX.out _).mono ?_
        rintro e w11 ⟨rfl, q⟩
        replace HT := Lib.hid (HT.out.later q)
        replace Q := Lib.hid (Q.out.trans (q.mono Q.out.size))
        replace HB := Lib.hid (HB.out.later q)
        clear q
        go_wp2_with fail
        refine (UX.out _).mono ?_
        rintro e w12 ⟨rfl, q⟩
        replace HT := Lib.hid (HT.out.later q)
        replace Q := Lib.hid (Q.out.trans (q.mono Q.out.size))
        replace HB := Lib.hid (HB.out.later q)
        clear q
        go_wp2_with fail
        go_roundw
        case rel => exact ⟨1, by omega, by simp, HT.out, HB.out, Q.out⟩
        case measure => simp [intOf]
      · have kd := HB.out.cell 1 _ rfl
        simp only [Int.cast_ofNat_Int]
        go_wp2_with fail
        refine (SZ.out _ HT.out).mono ?_
        rintro e w9 ⟨rfl, q⟩
        replace HT := Lib.hid (HT.out.later q)
        replace Q := Lib.hid (Q.out.trans (q.mono Q.out.size))
        replace HB := Lib.hid (HB.out.later q)
        clear q
        clear kd
        go_wp2_with fail
        refine (RZ.out _).mono ?_
        rintro e w10 ⟨rfl, q⟩
        replace HT := Lib.hid (HT.out.later q)
        replace Q := Lib.hid (Q.out.trans (q.mono Q.out.size))
        replace HB := Lib.hid (HB.out.later q)
        clear q
        go_wp2_with fail
        refine (QZ.out _).mono ?_
        rintro e w11 ⟨rfl, q⟩
        replace HT := Lib.hid (HT.out.later q)
        replace Q := Lib.hid (Q.out.trans (q.mono Q.out.size))
        replace HB := Lib.hid (HB.out.later q)
        clear q
        go_wp2_with fail
        refine (UZ.out _).mono ?_
        rintro e w12 ⟨rfl, q⟩
        replace HT := Lib.hid (HT.out.later q)
        replace Q := Lib.hid (Q.out.trans (q.mono Q.out.size))
        replace HB := Lib.hid (HB.out.later q)
        clear q
        go_wp2_with fail
        go_roundw
        case rel => exact ⟨2, by omega, by simp, HT.out, HB.out, Q.out⟩
        case measure => simp [intOf]
      · simp only [Int.cast_ofNat_Int]
        go_wp2_with fail
        go_ret
        exact ⟨rfl, Q.out⟩

theorem cut_600 (s : ByteArray) (h : s.size ≤ 600) : s.extract 0 600 = s := by
  apply ByteArray.ext
  rw [ByteArray.data_extract]
  apply Array.toList_inj.1
  have hsz : s.data.size ≤ 600 := h
  rw [Array.toList_extract]
  simp [List.extract]
  exact List.take_of_length_le (by simp; omega)
theorem kTells_ret (A : Nat → Nat) (s : ByteArray) (n : Int) (hA : ∀ j, A j < 2 ^ 64) (hs : s.size ≤ 140737488355328) (hn : I64 n) : RetT Tryd.prog 3 #[.agg (luC 25 A), .string s, .int .i64 n] (.bool true) := by
  obtain ⟨h0, h1⟩ := pickN_range n 300 (by omega)
  obtain ⟨k, hk⟩ : ∃ k : Nat, pickN n 300 = (k : Int) := ⟨(pickN n 300).toNat, by omega⟩
  have hp := pick_ret n hn 300 (by omega) (by omega)
  rw [hk] at hp h0 h1
  obtain ⟨x, hx⟩ : ∃ x, s.extract 0 600 = x := ⟨_, rfl⟩
  have hxs : x.size ≤ 600 := by rw [← hx, ByteArray.size_extract]; omega
  have hstr := fun W : World => conv_back (W := W.alloc (.cells (ubC k fun _ => 0) 5)) (g := W.heap.size) (m := k) (cap := k) (A := fun _ => 0) (fun _ => by omega) (Has.new W 5 _)
  have hz : (⟨((List.range k).map fun _ => UInt8.ofNat 0).toArray⟩ : ByteArray).size = k := by
    show ((List.range k).map fun _ => UInt8.ofNat 0).toArray.size = _
    simp
  generalize (⟨((List.range k).map fun _ => UInt8.ofNat 0).toArray⟩ : ByteArray) = zs at *
  exact tells_walk A (permN A) s x zs (sumS x) (sumS zs) (padS x) (padS zs) n k (by omega) hs (fun h => by rw [← hx]; exact cut_600 s h) (fun _ => hx) ((eqL_iff _ _).2 (fun _ _ => rfl)) hstr (permute_ret A hA) (refPermute_ret A hA) hp
    (sum_ret x (by omega)) (refSum_ret x (by omega)) (sum_ret zs (by omega)) (refSum_ret zs (by omega)) (pad_ret x (by omega)) (refPad_ret x (by omega)) (pad_ret zs (by omega)) (refPad_ret zs (by omega))
end Go.Proofs.YtobdjakflknlcaaDoor
