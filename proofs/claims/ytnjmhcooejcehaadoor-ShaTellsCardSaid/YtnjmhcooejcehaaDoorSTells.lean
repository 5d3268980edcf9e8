/- ShaTells: the walk, and the answer. -/
import Derived.Test.YtnjmhcooejcehaaDoorShaW
namespace Go.Proofs.YtnjmhcooejcehaaDoor
open Go Go.RowKit Go.Shelf
attribute [local go_sem] Oper.semAt_some Grows wide_fn eq4

set_option maxRecDepth 100000 in
set_option maxHeartbeats 16000000 in
theorem tells_walk (s x zs : ByteArray) (n gas many g2 k6 : Int) (a b : Nat) (k : Nat) (ha : W256 a) (hb : W256 b) (hk : k < 200) (hsz : s.size ≤ 140737488355328) (hx1 : s.size ≤ 300 → x = s) (hx2 : 300 < s.size → s.extract 0 300 = x)
    (hxs : x.size ≤ 300) (hzs : zs.size ≤ 300) (hgas : I64 gas) (hg2 : I64 g2) (hmany : I64 many)
    (hstr : ∀ W : World, (convert 26 9 (.slice (some ⟨W.heap.size, 0, none⟩) k k)).run Tryd.prog (W.alloc (.cells (ubC k fun _ => 0) 5)) = .ok (.string zs) (W.alloc (.cells (ubC k fun _ => 0) 5)))
    (hp1 : Ret Tryd.prog 9 #[.int .i64 n, .int .i64 200] (.int .i64 (k : Int))) (hp2 : Ret Tryd.prog 9 #[.int .i64 n, .int .i64 6] (.int .i64 k6))
    (hp3 : Ret Tryd.prog 9 #[.int .i64 gas, .int .i64 200] (.int .i64 g2)) (ho : Ret Tryd.prog 12 #[.int .i64 k6] (W4 (lim b 0) (lim b 1) (lim b 2) (lim b 3))) :
    RetT Tryd.prog 3 #[.string s, .int .i64 n, W4 (lim a 0) (lim a 1) (lim a 2) (lim a 3), .int .i64 gas, .int .i64 many] (.bool true) := by
  intro w HT0
  have hmx : Tryd.prog.follows .mixedOrders = true := by kernel_rfl
  have H0 := Lib.hid awake_ret
  have HP1 := Lib.hid hp1
  have HP2 := Lib.hid hp2
  have HP3 := Lib.hid hp3
  have HO := Lib.hid ho
  have HSTR := Lib.hid hstr
  have HX1 := Lib.hid hx1
  have HX2 := Lib.hid hx2
  clear hp1 hp2 hp3 ho hstr hx1 hx2
  have HSUM : Hid (∀ t : ByteArray, t.size ≤ 300 → RetT Tryd.prog 10 #[.string t] (.tuple #[.string (sumS t), .int .i64 0]) ∧ Ret Tryd.prog 11 #[.string t] (.tuple #[.string (sumS t), .int .i64 0])) := Lib.hid (fun t ht => ⟨sum_ret t (by omega), refSum_ret t (by omega)⟩)
  have HCOST := Lib.hid (fun (e : Nat) (he : W256 e) => both_cost e he many hmany)
  have HRUN := Lib.hid (fun (e : Nat) (he : W256 e) (t : ByteArray) (ht : t.size ≤ 300) (g : Int) (hg : I64 g) => both_run e he t (by omega) g hg)
  have HG := Lib.hid (And.intro hgas hg2)
  have HAB := Lib.hid (And.intro ha hb)
  have HXZ := Lib.hid (And.intro hxs hzs)
  have HL := Lib.hid (Has.new w 24 #[.int .u64 (lim a 0), .int .u64 (lim a 1), .int .u64 (lim a 2), .int .u64 (lim a 3)])
  have HT := Lib.hid (HT0.alloc (.cells #[.int .u64 (lim a 0), .int .u64 (lim a 1), .int .u64 (lim a 2), .int .u64 (lim a 3)] 24))
  have Q := Lib.hid ((Below.refl w.heap.size w).alloc (Nat.le_refl _) (.cells #[.int .u64 (lim a 0), .int .u64 (lim a 1), .int .u64 (lim a 2), .int .u64 (lim a 3)] 24))
  have hsI : (s.size : Int) ≤ 140737488355328 := by omega
  have hkI : (k : Int) < 200 := by omega
  clear HT0 hgas hg2 hmany ha hb
  go_enter Tryd.func3, Tryd.ntmps3
  go_wp2_with fail
  refine (H0.out _ HT.out).mono ?_
  rintro e w1 ⟨rfl, q⟩
  replace HT := Lib.hid (HT.out.later q)
  replace Q := Lib.hid (Q.out.trans (q.mono Q.out.size))
  replace HL := Lib.hid (HL.out.later q)
  clear q
  clear H0
  by_cases hs : 300 < s.size
  · have hsc : (300 : Int) < (s.size : Int) := by omega
    have hcut := HX2.out hs
    clear HX1 HX2 hs hsz hxs hzs
    go_wp2_with fail
    refine (HP1.out _).mono ?_
    rintro e w2 ⟨rfl, q⟩
    replace HT := Lib.hid (HT.out.later q)
    replace Q := Lib.hid (Q.out.trans (q.mono Q.out.size))
    replace HL := Lib.hid (HL.out.later q)
    clear q
    have hm1 := run_mkB w2 k (by omega)
    have hc1 := HSTR.out w2
    replace Q := Lib.hid (Q.out.alloc Q.out.size (.cells (ubC k fun _ => 0) 5))
    replace HT := Lib.hid (HT.out.alloc (.cells (ubC k fun _ => 0) 5))
    replace HL := Lib.hid (HL.out.alloc (.cells (ubC k fun _ => 0) 5))
    obtain ⟨W1, hW1⟩ : ∃ W1, w2.alloc (.cells (ubC k fun _ => 0) 5) = W1 := ⟨_, rfl⟩
    rw [hW1] at hm1 hc1 Q HT HL
    clear hW1 HSTR
    have HB := Lib.hid (Has.new W1 9 #[.string x, .string zs])
    replace Q := Lib.hid (Q.out.alloc Q.out.size (.cells #[.string x, .string zs] 9))
    replace HT := Lib.hid (HT.out.alloc (.cells #[.string x, .string zs] 9))
    replace HL := Lib.hid (HL.out.alloc (.cells #[.string x, .string zs] 9))
    go_wp2_with fail
    clear hm1 hc1
    obtain ⟨W2, hW2⟩ : ∃ W2, W1.alloc (.cells #[.string x, .string zs] 9) = W2 := ⟨_, rfl⟩
    rw [hW2] at HB HT Q HL ⊢
    clear hW2
    generalize W1.heap.size = B at *
    go_loopw [49] (fun i wr => ∃ j : Nat, j ≤ 2 ∧ i = .int .i64 (j : Int) ∧ Tab wr ∧ Has wr B 9 #[.string x, .string zs] ∧ Has wr w.heap.size 24 #[.int .u64 (lim a 0), .int .u64 (lim a 1), .int .u64 (lim a 2), .int .u64 (lim a 3)] ∧ Below w.heap.size w wr) (fun i _ => 2 - (intOf i).toNat)
    case atStart => exact ⟨0, by omega, rfl, HT.out, HB.out, HL.out, Q.out⟩
    case round =>
      clear HT HB HL Q
      obtain ⟨j, hj, rfl, HT, HB, HL, Q⟩ := hrel
      by_cases hj2 : j < 2
      · have hjI : (j : Int) < 2 := by omega
        have hj0 : (0 : Int) ≤ (j : Int) := by omega
        obtain ⟨tx, htx, kd⟩ : ∃ tx : ByteArray, tx.size ≤ 300 ∧ wr.cell? ⟨B, j, none⟩ = some (.string tx) := by
          rcases (show j = 0 ∨ j = 1 by omega) with rfl | rfl
          · exact ⟨x, HXZ.out.1, HB.cell 0 _ rfl⟩
          · exact ⟨zs, HXZ.out.2, HB.cell 1 _ rfl⟩
        have HJ2 := Lib.hid hj2
        have HTX := Lib.hid htx
        replace HT := Lib.hid HT
        replace HB := Lib.hid HB
        replace HL := Lib.hid HL
        replace Q := Lib.hid Q
        have S1 := Lib.hid (HSUM.out tx htx).1
        have S2 := Lib.hid (HSUM.out tx htx).2
        clear hj hj2 htx
        go_wp2_with fail
        refine (S1.out _ HT.out).mono ?_
        rintro e w6 ⟨rfl, q⟩
        replace HT := Lib.hid (HT.out.later q)
        replace Q := Lib.hid (Q.out.trans (q.mono Q.out.size))
        replace HB := Lib.hid (HB.out.later q)
        replace HL := Lib.hid (HL.out.later q)
        clear q
        clear kd
        go_wp2_with fail
        refine (S2.out _).mono ?_
        rintro e w7 ⟨rfl, q⟩
        replace HT := Lib.hid (HT.out.later q)
        replace Q := Lib.hid (Q.out.trans (q.mono Q.out.size))
        replace HB := Lib.hid (HB.out.later q)
        replace HL := Lib.hid (HL.out.later q)
        clear q
        have k0 : ∀ X : Ext w7, X.w.cell? ⟨w.heap.size, 0, none⟩ = some (.int .u64 (lim a 0)) := fun X => (HL.out.later X.below).cell 0 _ rfl
        have k1 : ∀ X : Ext w7, X.w.cell? ⟨w.heap.size, 1, none⟩ = some (.int .u64 (lim a 1)) := fun X => (HL.out.later X.below).cell 1 _ rfl
        have k2 : ∀ X : Ext w7, X.w.cell? ⟨w.heap.size, 2, none⟩ = some (.int .u64 (lim a 2)) := fun X => (HL.out.later X.below).cell 2 _ rfl
        have k3 : ∀ X : Ext w7, X.w.cell? ⟨w.heap.size, 3, none⟩ = some (.int .u64 (lim a 3)) := fun X => (HL.out.later X.below).cell 3 _ rfl
        go_wp2_with fail
        refine wp_region_mix (C := Grows w7) [some true, some true, some true, some true, none, none, some false] hmx (by kernel_rfl) (by kernel_rfl) (grows_refl w7) ?_
        simp only [headOf, tailOf]
        repeat (go_big_quiet_step (first | (with_reducible exact Ret.at HP2.out _) | (with_reducible exact Ret.at HO.out _)))
        refine wpQuiet_nil ?_
        rintro _ ⟨X, rfl⟩
        replace HT := Lib.hid ((HT.out.later X.below).alloc (.cells #[.int .u64 (lim a 0), .int .u64 (lim a 1), .int .u64 (lim a 2), .int .u64 (lim a 3), .int .u64 (lim b 0), .int .u64 (lim b 1), .int .u64 (lim b 2), .int .u64 (lim b 3)] 24))
        replace HB := Lib.hid ((HB.out.later X.below).alloc (.cells #[.int .u64 (lim a 0), .int .u64 (lim a 1), .int .u64 (lim a 2), .int .u64 (lim a 3), .int .u64 (lim b 0), .int .u64 (lim b 1), .int .u64 (lim b 2), .int .u64 (lim b 3)] 24))
        replace HL := Lib.hid ((HL.out.later X.below).alloc (.cells #[.int .u64 (lim a 0), .int .u64 (lim a 1), .int .u64 (lim a 2), .int .u64 (lim a 3), .int .u64 (lim b 0), .int .u64 (lim b 1), .int .u64 (lim b 2), .int .u64 (lim b 3)] 24))
        have HC := Lib.hid (Has.new X.w 24 #[.int .u64 (lim a 0), .int .u64 (lim a 1), .int .u64 (lim a 2), .int .u64 (lim a 3), .int .u64 (lim b 0), .int .u64 (lim b 1), .int .u64 (lim b 2), .int .u64 (lim b 3)])
        have hq := Q.out.trans (X.below.mono Q.out.size)
        replace Q := Lib.hid (hq.alloc hq.size (.cells #[.int .u64 (lim a 0), .int .u64 (lim a 1), .int .u64 (lim a 2), .int .u64 (lim a 3), .int .u64 (lim b 0), .int .u64 (lim b 1), .int .u64 (lim b 2), .int .u64 (lim b 3)] 24))
        clear k0 k1 k2 k3 hq
        go_wp2
        rw [calmPost_normal]
        go_wp2_with fail
        obtain ⟨W5, hW5⟩ : ∃ W5, X.w.alloc (.cells #[.int .u64 (lim a 0), .int .u64 (lim a 1), .int .u64 (lim a 2), .int .u64 (lim a 3), .int .u64 (lim b 0), .int .u64 (lim b 1), .int .u64 (lim b 2), .int .u64 (lim b 3)] 24) = W5 := ⟨_, rfl⟩
        rw [hW5] at HT HB HL HC Q ⊢
        clear hW5
        generalize X.w.heap.size = C at *
        clear X
        go_loopw [77] (fun i wr => ∃ j : Nat, j ≤ 2 ∧ i = .int .i64 (j : Int) ∧ Tab wr ∧ Has wr B 9 #[.string x, .string zs] ∧ Has wr w.heap.size 24 #[.int .u64 (lim a 0), .int .u64 (lim a 1), .int .u64 (lim a 2), .int .u64 (lim a 3)] ∧ Has wr C 24 #[.int .u64 (lim a 0), .int .u64 (lim a 1), .int .u64 (lim a 2), .int .u64 (lim a 3), .int .u64 (lim b 0), .int .u64 (lim b 1), .int .u64 (lim b 2), .int .u64 (lim b 3)] ∧ Below w.heap.size w wr) (fun i _ => 2 - (intOf i).toNat)
        case atStart => exact ⟨0, by omega, rfl, HT.out, HB.out, HL.out, HC.out, Q.out⟩
        case round =>
          clear HT HB HL HC Q
          obtain ⟨i, hi, rfl, HT, HB, HL, HC, Q⟩ := hrel
          by_cases hi2 : i < 2
          · have hiI : (i : Int) < 2 := by omega
            have hi0 : (0 : Int) ≤ (i : Int) := by omega
            obtain ⟨e, he, m0, m1, m2, m3⟩ : ∃ e : Nat, W256 e ∧ wr.cell? ⟨C, i * 4, none⟩ = some (.int .u64 (lim e 0)) ∧ wr.cell? ⟨C, i * 4 + 1, none⟩ = some (.int .u64 (lim e 1)) ∧ wr.cell? ⟨C, i * 4 + 2, none⟩ = some (.int .u64 (lim e 2)) ∧ wr.cell? ⟨C, i * 4 + 3, none⟩ = some (.int .u64 (lim e 3)) := by
              rcases (show i = 0 ∨ i = 1 by omega) with rfl | rfl
              · exact ⟨a, HAB.out.1, HC.cell 0 _ rfl, HC.cell 1 _ rfl, HC.cell 2 _ rfl, HC.cell 3 _ rfl⟩
              · exact ⟨b, HAB.out.2, HC.cell 4 _ rfl, HC.cell 5 _ rfl, HC.cell 6 _ rfl, HC.cell 7 _ rfl⟩
            obtain ⟨c, is, C1, C2⟩ := HCOST.out e he
            replace C1 := Lib.hid C1
            replace C2 := Lib.hid C2
            have HRE := Lib.hid (HRUN.out e he tx HTX.out)
            have HI2 := Lib.hid hi2
            generalize lim e 0 = e0 at *
            generalize lim e 1 = e1 at *
            generalize lim e 2 = e2 at *
            generalize lim e 3 = e3 at *
            replace HT := Lib.hid HT
            replace HB := Lib.hid HB
            replace HL := Lib.hid HL
            replace HC := Lib.hid HC
            replace Q := Lib.hid Q
            clear hi hi2 he
            have HE := Lib.hid (Has.new wr 24 #[.int .u64 e0, .int .u64 e1, .int .u64 e2, .int .u64 e3])
            replace HT := Lib.hid (HT.out.alloc (.cells #[.int .u64 e0, .int .u64 e1, .int .u64 e2, .int .u64 e3] 24))
            replace HB := Lib.hid (HB.out.alloc (.cells #[.int .u64 e0, .int .u64 e1, .int .u64 e2, .int .u64 e3] 24))
            replace HL := Lib.hid (HL.out.alloc (.cells #[.int .u64 e0, .int .u64 e1, .int .u64 e2, .int .u64 e3] 24))
            replace HC := Lib.hid (HC.out.alloc (.cells #[.int .u64 e0, .int .u64 e1, .int .u64 e2, .int .u64 e3] 24))
            replace Q := Lib.hid (Q.out.alloc Q.out.size (.cells #[.int .u64 e0, .int .u64 e1, .int .u64 e2, .int .u64 e3] 24))
            have k0 := HE.out.cell 0 _ rfl
            have k1 := HE.out.cell 1 _ rfl
            have k2 := HE.out.cell 2 _ rfl
            have k3 := HE.out.cell 3 _ rfl
            go_wp2_with fail
            refine (C1.out _).mono ?_
            rintro e w13 ⟨rfl, q⟩
            replace HT := Lib.hid (HT.out.later q)
            replace Q := Lib.hid (Q.out.trans (q.mono Q.out.size))
            replace HB := Lib.hid (HB.out.later q)
            replace HL := Lib.hid (HL.out.later q)
            replace HC := Lib.hid (HC.out.later q)
            replace HE := Lib.hid (HE.out.later q)
            clear q
            clear m0 m1 m2 m3 k0 k1 k2 k3
            generalize wr.heap.size = E at *
            have k0 := HE.out.cell 0 _ rfl
            have k1 := HE.out.cell 1 _ rfl
            have k2 := HE.out.cell 2 _ rfl
            have k3 := HE.out.cell 3 _ rfl
            go_wp2_with fail
            refine (C2.out _).mono ?_
            rintro e w14 ⟨rfl, q⟩
            replace HT := Lib.hid (HT.out.later q)
            replace Q := Lib.hid (Q.out.trans (q.mono Q.out.size))
            replace HB := Lib.hid (HB.out.later q)
            replace HL := Lib.hid (HL.out.later q)
            replace HC := Lib.hid (HC.out.later q)
            replace HE := Lib.hid (HE.out.later q)
            clear q
            clear k0 k1 k2 k3
            go_wp2_with fail
            refine (HP3.out _).mono ?_
            rintro e w15 ⟨rfl, q⟩
            replace HT := Lib.hid (HT.out.later q)
            replace Q := Lib.hid (Q.out.trans (q.mono Q.out.size))
            replace HB := Lib.hid (HB.out.later q)
            replace HL := Lib.hid (HL.out.later q)
            replace HC := Lib.hid (HC.out.later q)
            replace HE := Lib.hid (HE.out.later q)
            clear q
            have HGS := Lib.hid (Has.new w15 3 #[.int .i64 gas, .int .i64 g2])
            replace HB := Lib.hid (HB.out.alloc (.cells #[.int .i64 gas, .int .i64 g2] 3))
            replace HL := Lib.hid (HL.out.alloc (.cells #[.int .i64 gas, .int .i64 g2] 3))
            replace HC := Lib.hid (HC.out.alloc (.cells #[.int .i64 gas, .int .i64 g2] 3))
            replace HE := Lib.hid (HE.out.alloc (.cells #[.int .i64 gas, .int .i64 g2] 3))
            replace HT := Lib.hid (HT.out.alloc (.cells #[.int .i64 gas, .int .i64 g2] 3))
            replace Q := Lib.hid (Q.out.alloc Q.out.size (.cells #[.int .i64 gas, .int .i64 g2] 3))
            go_wp2_with fail
            obtain ⟨W7, hW7⟩ : ∃ W7, w15.alloc (.cells #[.int .i64 gas, .int .i64 g2] 3) = W7 := ⟨_, rfl⟩
            rw [hW7] at HT HB HL HC HE HGS Q ⊢
            clear hW7
            generalize w15.heap.size = G at *
            go_loopw [106] (fun i wr => ∃ j : Nat, j ≤ 2 ∧ i = .int .i64 (j : Int) ∧ Tab wr ∧ Has wr B 9 #[.string x, .string zs] ∧ Has wr w.heap.size 24 #[.int .u64 (lim a 0), .int .u64 (lim a 1), .int .u64 (lim a 2), .int .u64 (lim a 3)] ∧ Has wr C 24 #[.int .u64 (lim a 0), .int .u64 (lim a 1), .int .u64 (lim a 2), .int .u64 (lim a 3), .int .u64 (lim b 0), .int .u64 (lim b 1), .int .u64 (lim b 2), .int .u64 (lim b 3)] ∧ Has wr E 24 #[.int .u64 e0, .int .u64 e1, .int .u64 e2, .int .u64 e3] ∧ Has wr G 3 #[.int .i64 gas, .int .i64 g2] ∧ Below w.heap.size w wr) (fun i _ => 2 - (intOf i).toNat)
            case atStart => exact ⟨0, by omega, rfl, HT.out, HB.out, HL.out, HC.out, HE.out, HGS.out, Q.out⟩
            case round =>
              clear HT HB HL HC HE HGS Q
              obtain ⟨h, hh, rfl, HT, HB, HL, HC, HE, HGS, Q⟩ := hrel
              by_cases hh2 : h < 2
              · have hhI : (h : Int) < 2 := by omega
                have hh0 : (0 : Int) ≤ (h : Int) := by omega
                obtain ⟨g, hg, kg⟩ : ∃ g : Int, I64 g ∧ wr.cell? ⟨G, h, none⟩ = some (.int .i64 g) := by
                  rcases (show h = 0 ∨ h = 1 by omega) with rfl | rfl
                  · exact ⟨gas, HG.out.1, HGS.cell 0 _ rfl⟩
                  · exact ⟨g2, HG.out.2, HGS.cell 1 _ rfl⟩
                obtain ⟨o, l, ok, R1, R2⟩ := HRE.out g hg
                replace R1 := Lib.hid R1
                replace R2 := Lib.hid R2
                have HH2 := Lib.hid hh2
                replace HT := Lib.hid HT
                replace HB := Lib.hid HB
                replace HL := Lib.hid HL
                replace HC := Lib.hid HC
                replace HE := Lib.hid HE
                replace HGS := Lib.hid HGS
                replace Q := Lib.hid Q
                clear hh hh2 hg
                have k0 := HE.out.cell 0 _ rfl
                have k1 := HE.out.cell 1 _ rfl
                have k2 := HE.out.cell 2 _ rfl
                have k3 := HE.out.cell 3 _ rfl
                go_wp2_with fail
                refine (R1.out _ HT.out).mono ?_
                rintro e w21 ⟨rfl, q⟩
                replace HT := Lib.hid (HT.out.later q)
                replace Q := Lib.hid (Q.out.trans (q.mono Q.out.size))
                replace HB := Lib.hid (HB.out.later q)
                replace HL := Lib.hid (HL.out.later q)
                replace HC := Lib.hid (HC.out.later q)
                replace HE := Lib.hid (HE.out.later q)
                replace HGS := Lib.hid (HGS.out.later q)
                clear q
                clear kg k0 k1 k2 k3
                have k0 := HE.out.cell 0 _ rfl
                have k1 := HE.out.cell 1 _ rfl
                have k2 := HE.out.cell 2 _ rfl
                have k3 := HE.out.cell 3 _ rfl
                go_wp2_with fail
                refine (R2.out _).mono ?_
                rintro e w22 ⟨rfl, q⟩
                replace HT := Lib.hid (HT.out.later q)
                replace Q := Lib.hid (Q.out.trans (q.mono Q.out.size))
                replace HB := Lib.hid (HB.out.later q)
                replace HL := Lib.hid (HL.out.later q)
                replace HC := Lib.hid (HC.out.later q)
                replace HE := Lib.hid (HE.out.later q)
                replace HGS := Lib.hid (HGS.out.later q)
                clear q
                clear k0 k1 k2 k3
                go_wp2_with fail
                go_roundw
                case rel => exact ⟨h + 1, by have := HH2.out; omega, by simp, HT.out, HB.out, HL.out, HC.out, HE.out, HGS.out, Q.out⟩
                case measure => have := HH2.out; simp [intOf]; omega
              · obtain rfl : h = 2 := by omega
                simp only [Int.cast_ofNat_Int]
                replace HT := Lib.hid HT
                replace HB := Lib.hid HB
                replace HL := Lib.hid HL
                replace HC := Lib.hid HC
                replace Q := Lib.hid Q
                clear HE HGS
                go_wp2_with fail
                go_roundw
                case rel => exact ⟨i + 1, by have := HI2.out; omega, by simp, HT.out, HB.out, HL.out, HC.out, Q.out⟩
                case measure => have := HI2.out; simp [intOf]; omega
          · obtain rfl : i = 2 := by omega
            simp only [Int.cast_ofNat_Int]
            replace HT := Lib.hid HT
            replace HB := Lib.hid HB
            replace HL := Lib.hid HL
            replace Q := Lib.hid Q
            clear HC
            go_wp2_with fail
            go_roundw
            case rel => exact ⟨j + 1, by have := HJ2.out; omega, by simp, HT.out, HB.out, HL.out, Q.out⟩
            case measure => have := HJ2.out; simp [intOf]; omega
      · obtain rfl : j = 2 := by omega
        simp only [Int.cast_ofNat_Int]
        replace Q := Lib.hid Q
        clear HT HB HL
        go_wp2_with fail
        go_ret
        exact ⟨rfl, Q.out⟩
  · have hsc : ¬ (300 : Int) < (s.size : Int) := by omega
    obtain rfl : x = s := HX1.out (by omega)
    clear HX1 HX2 hs hsz hxs hzs
    go_wp2_with fail
    refine (HP1.out _).mono ?_
    rintro e w2 ⟨rfl, q⟩
    replace HT := Lib.hid (HT.out.later q)
    replace Q := Lib.hid (Q.out.trans (q.mono Q.out.size))
    replace HL := Lib.hid (HL.out.later q)
    clear q
    have hm1 := run_mkB w2 k (by omega)
    have hc1 := HSTR.out w2
    replace Q := Lib.hid (Q.out.alloc Q.out.size (.cells (ubC k fun _ => 0) 5))
    replace HT := Lib.hid (HT.out.alloc (.cells (ubC k fun _ => 0) 5))
    replace HL := Lib.hid (HL.out.alloc (.cells (ubC k fun _ => 0) 5))
    obtain ⟨W1, hW1⟩ : ∃ W1, w2.alloc (.cells (ubC k fun _ => 0) 5) = W1 := ⟨_, rfl⟩
    rw [hW1] at hm1 hc1 Q HT HL
    clear hW1 HSTR
    have HB := Lib.hid (Has.new W1 9 #[.string x, .string zs])
    replace Q := Lib.hid (Q.out.alloc Q.out.size (.cells #[.string x, .string zs] 9))
    replace HT := Lib.hid (HT.out.alloc (.cells #[.string x, .string zs] 9))
    replace HL := Lib.hid (HL.out.alloc (.cells #[.string x, .string zs] 9))
    go_wp2_with fail
    clear hm1 hc1
    obtain ⟨W2, hW2⟩ : ∃ W2, W1.alloc (.cells #[.string x, .string zs] 9) = W2 := ⟨_, rfl⟩
    rw [hW2] at HB HT Q HL ⊢
    clear hW2
    generalize W1.heap.size = B at *
    go_loopw [49] (fun i wr => ∃ j : Nat, j ≤ 2 ∧ i = .int .i64 (j : Int) ∧ Tab wr ∧ Has wr B 9 #[.string x, .string zs] ∧ Has wr w.heap.size 24 #[.int .u64 (lim a 0), .int .u64 (lim a 1), .int .u64 (lim a 2), .int .u64 (lim a 3)] ∧ Below w.heap.size w wr) (fun i _ => 2 - (intOf i).toNat)
    case atStart => exact ⟨0, by omega, rfl, HT.out, HB.out, HL.out, Q.out⟩
    case round =>
      clear HT HB HL Q
      obtain ⟨j, hj, rfl, HT, HB, HL, Q⟩ := hrel
      by_cases hj2 : j < 2
      · have hjI : (j : Int) < 2 := by omega
        have hj0 : (0 : Int) ≤ (j : Int) := by omega
        obtain ⟨tx, htx, kd⟩ : ∃ tx : ByteArray, tx.size ≤ 300 ∧ wr.cell? ⟨B, j, none⟩ = some (.string tx) := by
          rcases (show j = 0 ∨ j = 1 by omega) with rfl | rfl
          · exact ⟨x, HXZ.out.1, HB.cell 0 _ rfl⟩
          · exact ⟨zs, HXZ.out.2, HB.cell 1 _ rfl⟩
        have HJ2 := Lib.hid hj2
        have HTX := Lib.hid htx
        replace HT := Lib.hid HT
        replace HB := Lib.hid HB
        replace HL := Lib.hid HL
        replace Q := Lib.hid Q
        have S1 := Lib.hid (HSUM.out tx htx).1
        have S2 := Lib.hid (HSUM.out tx htx).2
        clear hj hj2 htx
        go_wp2_with fail
        refine (S1.out _ HT.out).mono ?_
        rintro e w6 ⟨rfl, q⟩
        replace HT := Lib.hid (HT.out.later q)
        replace Q := Lib.hid (Q.out.trans (q.mono Q.out.size))
        replace HB := Lib.hid (HB.out.later q)
        replace HL := Lib.hid (HL.out.later q)
        clear q
        clear kd
        go_wp2_with fail
        refine (S2.out _).mono ?_
        rintro e w7 ⟨rfl, q⟩
        replace HT := Lib.hid (HT.out.later q)
        replace Q := Lib.hid (Q.out.trans (q.mono Q.out.size))
        replace HB := Lib.hid (HB.out.later q)
        replace HL := Lib.hid (HL.out.later q)
        clear q
        have k0 : ∀ X : Ext w7, X.w.cell? ⟨w.heap.size, 0, none⟩ = some (.int .u64 (lim a 0)) := fun X => (HL.out.later X.below).cell 0 _ rfl
        have k1 : ∀ X : Ext w7, X.w.cell? ⟨w.heap.size, 1, none⟩ = some (.int .u64 (lim a 1)) := fun X => (HL.out.later X.below).cell 1 _ rfl
        have k2 : ∀ X : Ext w7, X.w.cell? ⟨w.heap.size, 2, none⟩ = some (.int .u64 (lim a 2)) := fun X => (HL.out.later X.below).cell 2 _ rfl
        have k3 : ∀ X : Ext w7, X.w.cell? ⟨w.heap.size, 3, none⟩ = some (.int .u64 (lim a 3)) := fun X => (HL.out.later X.below).cell 3 _ rfl
        go_wp2_with fail
        refine wp_region_mix (C := Grows w7) [some true, some true, some true, some true, none, none, some false] hmx (by kernel_rfl) (by kernel_rfl) (grows_refl w7) ?_
        simp only [headOf, tailOf]
        repeat (go_big_quiet_step (first | (with_reducible exact Ret.at HP2.out _) | (with_reducible exact Ret.at HO.out _)))
        refine wpQuiet_nil ?_
        rintro _ ⟨X, rfl⟩
        replace HT := Lib.hid ((HT.out.later X.below).alloc (.cells #[.int .u64 (lim a 0), .int .u64 (lim a 1), .int .u64 (lim a 2), .int .u64 (lim a 3), .int .u64 (lim b 0), .int .u64 (lim b 1), .int .u64 (lim b 2), .int .u64 (lim b 3)] 24))
        replace HB := Lib.hid ((HB.out.later X.below).alloc (.cells #[.int .u64 (lim a 0), .int .u64 (lim a 1), .int .u64 (lim a 2), .int .u64 (lim a 3), .int .u64 (lim b 0), .int .u64 (lim b 1), .int .u64 (lim b 2), .int .u64 (lim b 3)] 24))
        replace HL := Lib.hid ((HL.out.later X.below).alloc (.cells #[.int .u64 (lim a 0), .int .u64 (lim a 1), .int .u64 (lim a 2), .int .u64 (lim a 3), .int .u64 (lim b 0), .int .u64 (lim b 1), .int .u64 (lim b 2), .int .u64 (lim b 3)] 24))
        have HC := Lib.hid (Has.new X.w 24 #[.int .u64 (lim a 0), .int .u64 (lim a 1), .int .u64 (lim a 2), .int .u64 (lim a 3), .int .u64 (lim b 0), .int .u64 (lim b 1), .int .u64 (lim b 2), .int .u64 (lim b 3)])
        have hq := Q.out.trans (X.below.mono Q.out.size)
        replace Q := Lib.hid (hq.alloc hq.size (.cells #[.int .u64 (lim a 0), .int .u64 (lim a 1), .int .u64 (lim a 2), .int .u64 (lim a 3), .int .u64 (lim b 0), .int .u64 (lim b 1), .int .u64 (lim b 2), .int .u64 (lim b 3)] 24))
        clear k0 k1 k2 k3 hq
        go_wp2
        rw [calmPost_normal]
        go_wp2_with fail
        obtain ⟨W5, hW5⟩ : ∃ W5, X.w.alloc (.cells #[.int .u64 (lim a 0), .int .u64 (lim a 1), .int .u64 (lim a 2), .int .u64 (lim a 3), .int .u64 (lim b 0), .int .u64 (lim b 1), .int .u64 (lim b 2), .int .u64 (lim b 3)] 24) = W5 := ⟨_, rfl⟩
        rw [hW5] at HT HB HL HC Q ⊢
        clear hW5
        generalize X.w.heap.size = C at *
        clear X
        go_loopw [77] (fun i wr => ∃ j : Nat, j ≤ 2 ∧ i = .int .i64 (j : Int) ∧ Tab wr ∧ Has wr B 9 #[.string x, .string zs] ∧ Has wr w.heap.size 24 #[.int .u64 (lim a 0), .int .u64 (lim a 1), .int .u64 (lim a 2), .int .u64 (lim a 3)] ∧ Has wr C 24 #[.int .u64 (lim a 0), .int .u64 (lim a 1), .int .u64 (lim a 2), .int .u64 (lim a 3), .int .u64 (lim b 0), .int .u64 (lim b 1), .int .u64 (lim b 2), .int .u64 (lim b 3)] ∧ Below w.heap.size w wr) (fun i _ => 2 - (intOf i).toNat)
        case atStart => exact ⟨0, by omega, rfl, HT.out, HB.out, HL.out, HC.out, Q.out⟩
        case round =>
          clear HT HB HL HC Q
          obtain ⟨i, hi, rfl, HT, HB, HL, HC, Q⟩ := hrel
          by_cases hi2 : i < 2
          · have hiI : (i : Int) < 2 := by omega
            have hi0 : (0 : Int) ≤ (i : Int) := by omega
            obtain ⟨e, he, m0, m1, m2, m3⟩ : ∃ e : Nat, W256 e ∧ wr.cell? ⟨C, i * 4, none⟩ = some (.int .u64 (lim e 0)) ∧ wr.cell? ⟨C, i * 4 + 1, none⟩ = some (.int .u64 (lim e 1)) ∧ wr.cell? ⟨C, i * 4 + 2, none⟩ = some (.int .u64 (lim e 2)) ∧ wr.cell? ⟨C, i * 4 + 3, none⟩ = some (.int .u64 (lim e 3)) := by
              rcases (show i = 0 ∨ i = 1 by omega) with rfl | rfl
              · exact ⟨a, HAB.out.1, HC.cell 0 _ rfl, HC.cell 1 _ rfl, HC.cell 2 _ rfl, HC.cell 3 _ rfl⟩
              · exact ⟨b, HAB.out.2, HC.cell 4 _ rfl, HC.cell 5 _ rfl, HC.cell 6 _ rfl, HC.cell 7 _ rfl⟩
            obtain ⟨c, is, C1, C2⟩ := HCOST.out e he
            replace C1 := Lib.hid C1
            replace C2 := Lib.hid C2
            have HRE := Lib.hid (HRUN.out e he tx HTX.out)
            have HI2 := Lib.hid hi2
            generalize lim e 0 = e0 at *
            generalize lim e 1 = e1 at *
            generalize lim e 2 = e2 at *
            generalize lim e 3 = e3 at *
            replace HT := Lib.hid HT
            replace HB := Lib.hid HB
            replace HL := Lib.hid HL
            replace HC := Lib.hid HC
            replace Q := Lib.hid Q
            clear hi hi2 he
            have HE := Lib.hid (Has.new wr 24 #[.int .u64 e0, .int .u64 e1, .int .u64 e2, .int .u64 e3])
            replace HT := Lib.hid (HT.out.alloc (.cells #[.int .u64 e0, .int .u64 e1, .int .u64 e2, .int .u64 e3] 24))
            replace HB := Lib.hid (HB.out.alloc (.cells #[.int .u64 e0, .int .u64 e1, .int .u64 e2, .int .u64 e3] 24))
            replace HL := Lib.hid (HL.out.alloc (.cells #[.int .u64 e0, .int .u64 e1, .int .u64 e2, .int .u64 e3] 24))
            replace HC := Lib.hid (HC.out.alloc (.cells #[.int .u64 e0, .int .u64 e1, .int .u64 e2, .int .u64 e3] 24))
            replace Q := Lib.hid (Q.out.alloc Q.out.size (.cells #[.int .u64 e0, .int .u64 e1, .int .u64 e2, .int .u64 e3] 24))
            have k0 := HE.out.cell 0 _ rfl
            have k1 := HE.out.cell 1 _ rfl
            have k2 := HE.out.cell 2 _ rfl
            have k3 := HE.out.cell 3 _ rfl
            go_wp2_with fail
            refine (C1.out _).mono ?_
            rintro e w13 ⟨rfl, q⟩
            replace HT := Lib.hid (HT.out.later q)
            replace Q := Lib.hid (Q.out.trans (q.mono Q.out.size))
            replace HB := Lib.hid (HB.out.later q)
            replace HL := Lib.hid (HL.out.later q)
            replace HC := Lib.hid (HC.out.later q)
            replace HE := Lib.hid (HE.out.later q)
            clear q
            clear m0 m1 m2 m3 k0 k1 k2 k3
            generalize wr.heap.size = E at *
            have k0 := HE.out.cell 0 _ rfl
            have k1 := HE.out.cell 1 _ rfl
            have k2 := HE.out.cell 2 _ rfl
            have k3 := HE.out.cell 3 _ rfl
            go_wp2_with fail
            refine (C2.out _).mono ?_
            rintro e w14 ⟨rfl, q⟩
            replace HT := Lib.hid (HT.out.later q)
            replace Q := Lib.hid (Q.out.trans (q.mono Q.out.size))
            replace HB := Lib.hid (HB.out.later q)
            replace HL := Lib.hid (HL.out.later q)
            replace HC := Lib.hid (HC.out.later q)
            replace HE := Lib.hid (HE.out.later q)
            clear q
            clear k0 k1 k2 k3
            go_wp2_with fail
            refine (HP3.out _).mono ?_
            rintro e w15 ⟨rfl, q⟩
            replace HT := Lib.hid (HT.out.later q)
            replace Q := Lib.hid (Q.out.trans (q.mono Q.out.size))
            replace HB := Lib.hid (HB.out.later q)
            replace HL := Lib.hid (HL.out.later q)
            replace HC := Lib.hid (HC.out.later q)
            replace HE := Lib.hid (HE.out.later q)
            clear q
            have HGS := Lib.hid (Has.new w15 3 #[.int .i64 gas, .int .i64 g2])
            replace HB := Lib.hid (HB.out.alloc (.cells #[.int .i64 gas, .int .i64 g2] 3))
            replace HL := Lib.hid (HL.out.alloc (.cells #[.int .i64 gas, .int .i64 g2] 3))
            replace HC := Lib.hid (HC.out.alloc (.cells #[.int .i64 gas, .int .i64 g2] 3))
            replace HE := Lib.hid (HE.out.alloc (.cells #[.int .i64 gas, .int .i64 g2] 3))
            replace HT := Lib.hid (HT.out.alloc (.cells #[.int .i64 gas, .int .i64 g2] 3))
            replace Q := Lib.hid (Q.out.alloc Q.out.size (.cells #[.int .i64 gas, .int .i64 g2] 3))
            go_wp2_with fail
            obtain ⟨W7, hW7⟩ : ∃ W7, w15.alloc (.cells #[.int .i64 gas, .int .i64 g2] 3) = W7 := ⟨_, rfl⟩
            rw [hW7] at HT HB HL HC HE HGS Q ⊢
            clear hW7
            generalize w15.heap.size = G at *
            go_loopw [106] (fun i wr => ∃ j : Nat, j ≤ 2 ∧ i = .int .i64 (j : Int) ∧ Tab wr ∧ Has wr B 9 #[.string x, .string zs] ∧ Has wr w.heap.size 24 #[.int .u64 (lim a 0), .int .u64 (lim a 1), .int .u64 (lim a 2), .int .u64 (lim a 3)] ∧ Has wr C 24 #[.int .u64 (lim a 0), .int .u64 (lim a 1), .int .u64 (lim a 2), .int .u64 (lim a 3), .int .u64 (lim b 0), .int .u64 (lim b 1), .int .u64 (lim b 2), .int .u64 (lim b 3)] ∧ Has wr E 24 #[.int .u64 e0, .int .u64 e1, .int .u64 e2, .int .u64 e3] ∧ Has wr G 3 #[.int .i64 gas, .int .i64 g2] ∧ Below w.heap.size w wr) (fun i _ => 2 - (intOf i).toNat)
            case atStart => exact ⟨0, by omega, rfl, HT.out, HB.out, HL.out, HC.out, HE.out, HGS.out, Q.out⟩
            case round =>
              clear HT HB HL HC HE HGS Q
              obtain ⟨h, hh, rfl, HT, HB, HL, HC, HE, HGS, Q⟩ := hrel
              by_cases hh2 : h < 2
              · have hhI : (h : Int) < 2 := by omega
                have hh0 : (0 : Int) ≤ (h : Int) := by omega
                obtain ⟨g, hg, kg⟩ : ∃ g : Int, I64 g ∧ wr.cell? ⟨G, h, none⟩ = some (.int .i64 g) := by
                  rcases (show h = 0 ∨ h = 1 by omega) with rfl | rfl
                  · exact ⟨gas, HG.out.1, HGS.cell 0 _ rfl⟩
                  · exact ⟨g2, HG.out.2, HGS.cell 1 _ rfl⟩
                obtain ⟨o, l, ok, R1, R2⟩ := HRE.out g hg
                replace R1 := Lib.hid R1
                replace R2 := Lib.hid R2
                have HH2 := Lib.hid hh2
                replace HT := Lib.hid HT
                replace HB := Lib.hid HB
                replace HL := Lib.hid HL
                replace HC := Lib.hid HC
                replace HE := Lib.hid HE
                replace HGS := Lib.hid HGS
                replace Q := Lib.hid Q
                clear hh hh2 hg
                have k0 := HE.out.cell 0 _ rfl
                have k1 := HE.out.cell 1 _ rfl
                have k2 := HE.out.cell 2 _ rfl
                have k3 := HE.out.cell 3 _ rfl
                go_wp2_with fail
                refine (R1.out _ HT.out).mono ?_
                rintro e w21 ⟨rfl, q⟩
                replace HT := Lib.hid (HT.out.later q)
                replace Q := Lib.hid (Q.out.trans (q.mono Q.out.size))
                replace HB := Lib.hid (HB.out.later q)
                replace HL := Lib.hid (HL.out.later q)
                replace HC := Lib.hid (HC.out.later q)
                replace HE := Lib.hid (HE.out.later q)
                replace HGS := Lib.hid (HGS.out.later q)
                clear q
                clear kg k0 k1 k2 k3
                have k0 := HE.out.cell 0 _ rfl
                have k1 := HE.out.cell 1 _ rfl
                have k2 := HE.out.cell 2 _ rfl
                have k3 := HE.out.cell 3 _ rfl
                go_wp2_with fail
                refine (R2.out _).mono ?_
                rintro e w22 ⟨rfl, q⟩
                replace HT := Lib.hid (HT.out.later q)
                replace Q := Lib.hid (Q.out.trans (q.mono Q.out.size))
                replace HB := Lib.hid (HB.out.later q)
                replace HL := Lib.hid (HL.out.later q)
                replace HC := Lib.hid (HC.out.later q)
                replace HE := Lib.hid (HE.out.later q)
                replace HGS := Lib.hid (HGS.out.later q)
                clear q
                clear k0 k1 k2 k3
                go_wp2_with fail
                go_roundw
                case rel => exact ⟨h + 1, by have := HH2.out; omega, by simp, HT.out, HB.out, HL.out, HC.out, HE.out, HGS.out, Q.out⟩
                case measure => have := HH2.out; simp [intOf]; omega
              · obtain rfl : h = 2 := by omega
                simp only [Int.cast_ofNat_Int]
                replace HT := Lib.hid HT
                replace HB := Lib.hid HB
                replace HL := Lib.hid HL
                replace HC := Lib.hid HC
                replace Q := Lib.hid Q
                clear HE HGS
                go_wp2_with fail
                go_roundw
                case rel => exact ⟨i + 1, by have := HI2.out; omega, by simp, HT.out, HB.out, HL.out, HC.out, Q.out⟩
                case measure => have := HI2.out; simp [intOf]; omega
          · obtain rfl : i = 2 := by omega
            simp only [Int.cast_ofNat_Int]
            replace HT := Lib.hid HT
            replace HB := Lib.hid HB
            replace HL := Lib.hid HL
            replace Q := Lib.hid Q
            clear HC
            go_wp2_with fail
            go_roundw
            case rel => exact ⟨j + 1, by have := HJ2.out; omega, by simp, HT.out, HB.out, HL.out, Q.out⟩
            case measure => have := HJ2.out; simp [intOf]; omega
      · obtain rfl : j = 2 := by omega
        simp only [Int.cast_ofNat_Int]
        replace Q := Lib.hid Q
        clear HT HB HL
        go_wp2_with fail
        go_ret
        exact ⟨rfl, Q.out⟩

theorem conv_back0 {W : World} {g m cap : Nat} {t : TypeId} (h : Has W g t (ubC m fun _ => 0)) : (convert 26 9 (.slice (some ⟨g, 0, none⟩) m cap)).run Tryd.prog W = .ok (.string ⟨((List.range m).map fun _ => UInt8.ofNat 0).toArray⟩) W := by
  have hl : ((List.range m).map fun _ => UInt8.ofNat 0).length = m := by simp
  have h2 := run_convert_bytes_back (P := Tryd.prog) W 26 9 5 ⟨g, 0, none⟩ cap ((List.range m).map fun _ => UInt8.ofNat 0) Tryd.underlying26 Tryd.underlying5 Tryd.underlying9 (fun j hj => by
    have hj2 : j < m := by simpa using hj
    have hadd : (⟨g, 0, none⟩ : Addr).add j = ⟨g, j, none⟩ := by unfold Addr.add; split <;> simp_all
    rw [hadd, h.cell j _ (ubC_get m _ j hj2)]
    simp)
  rw [hl] at h2
  exact h2
theorem cut_300' (s : ByteArray) (h : s.size ≤ 300) : s.extract 0 300 = s := by
  apply ByteArray.ext
  rw [ByteArray.data_extract]
  apply Array.toList_inj.1
  have hsz : s.data.size ≤ 300 := h
  rw [Array.toList_extract]
  simp [List.extract]
  exact List.take_of_length_le (by simp; omega)
theorem sTells_ret (s : ByteArray) (n : Int) (a : Nat) (gas many : Int) (hs : s.size ≤ 140737488355328) (hn : I64 n) (ha : W256 a) (hg : I64 gas) (hm : I64 many) :
    RetT Tryd.prog 3 #[.string s, .int .i64 n, wv a, .int .i64 gas, .int .i64 many] (.bool true) := by
  obtain ⟨h0, h1⟩ := pickN_range n 200 (by omega)
  obtain ⟨k, hk⟩ : ∃ k : Nat, pickN n 200 = (k : Int) := ⟨(pickN n 200).toNat, by omega⟩
  have hp1 := pick_ret n hn 200 (by omega) (by omega)
  rw [hk] at hp1 h0 h1
  obtain ⟨h2, h3⟩ := pickN_range n 6 (by omega)
  have hp2 := pick_ret n hn 6 (by omega) (by omega)
  obtain ⟨h4, h5⟩ := pickN_range gas 200 (by omega)
  have hp3 := pick_ret gas hg 200 (by omega) (by omega)
  have i6 : I64 (pickN n 6) := by unfold I64; omega
  have i200 : I64 (pickN gas 200) := by unfold I64; omega
  obtain ⟨x, hx⟩ : ∃ x, s.extract 0 300 = x := ⟨_, rfl⟩
  have hxs : x.size ≤ 300 := by rw [← hx, ByteArray.size_extract]; omega
  have hstr := fun W : World => conv_back0 (W := W.alloc (.cells (ubC k fun _ => 0) 5)) (g := W.heap.size) (m := k) (cap := k) (Has.new W 5 _)
  have hz : (⟨((List.range k).map fun _ => UInt8.ofNat 0).toArray⟩ : ByteArray).size = k := by
    show ((List.range k).map fun _ => UInt8.ofNat 0).toArray.size = _
    simp
  generalize (⟨((List.range k).map fun _ => UInt8.ofNat 0).toArray⟩ : ByteArray) = zs at *
  exact tells_walk s x zs n gas many _ _ a (ofN (pickN n 6)) k ha (ofN_lt _ i6) (by omega) hs (fun h => by rw [← hx]; exact cut_300' s h) (fun _ => hx) hxs (by omega) hg i200 hm hstr hp1 hp2 hp3 (refOf_ret _ i6)
end Go.Proofs.YtnjmhcooejcehaaDoor
