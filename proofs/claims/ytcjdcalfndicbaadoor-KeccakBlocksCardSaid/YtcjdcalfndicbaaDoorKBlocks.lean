/- A hash of blocks is told by adding each one to the lanes, and Permute: the walk, and the answer. -/
import Derived.Test.YtcjdcalfndicbaaDoorKOne
namespace Go.Proofs.YtcjdcalfndicbaaDoor
open Go Go.RowKit Go.Shelf
attribute [local go_sem] Oper.semAt_some Grows wide_fn field0

set_option maxRecDepth 100000 in
set_option maxHeartbeats 8000000 in
theorem blocks_walk (s x p h : ByteArray) (n L : Nat) (D : Nat → Nat) (st md : Nat → Nat → Nat) (R : Nat → Nat) (hss : s.size ≤ 140737488355328) (hx1 : s.size ≤ 600 → x = s) (hx2 : 600 < s.size → s.extract 0 600 = x) (hn : x.size = n) (hn6 : n ≤ 600) (hp : p.size = L) (hL1 : n < L) (hL2 : L ≤ n + 136) (hLm : (L : Int).tmod 136 = 0) (hpx : p.extract 0 n = x)
    (hD : ∀ j, D j < 256) (hpD : ∀ j, j < L → ∀ g : j < p.size, ((p[j]'g).toNat : Int) = (D j : Int)) (hst : ∀ k j, st k j < 2 ^ 64) (h00 : st 0 = fun _ => 0) (hE : st L = R)
    (hmd : ∀ k, k < L → ∀ i, i < 25 → md k i = if i = k % 136 / 8 then st k (k % 136 / 8) ^^^ (D k * 2 ^ (8 * (k % 136 % 8))) else st k i)
    (hnx : ∀ k, k < L → ¬ k % 136 = 135 → luC 25 (md k) = luC 25 (st (k + 1))) (hpr : ∀ k, k < L → k % 136 = 135 → RetT Tryd.prog 11 #[.agg (luC 25 (md k))] (.agg (luC 25 (st (k + 1)))))
    (hh : h.size = 32) (hhR : ∀ j, j < 32 → ∀ g : j < h.size, ((h[j]'g).toNat : Int) = (sqB R j : Int))
    (h1 : Ret Tryd.prog 16 #[.string x] (.string p)) (h3 : RetT Tryd.prog 14 #[.string x] (.tuple #[.string h, .int .i64 0])) :
    RetT Tryd.prog 4 #[.string s] (.bool true) := by
  intro w HT
  have hw0 := HT.lt
  have hmx : Tryd.prog.follows .mixedOrders = true := by kernel_rfl
  have H0 := Lib.hid awake_ret
  have H1 := Lib.hid h1
  have H3 := Lib.hid h3
  have HX1 := Lib.hid hx1
  have HX2 := Lib.hid hx2
  have HD := Lib.hid hD
  have HPD := Lib.hid hpD
  have HH := Lib.hid hhR
  have HM := Lib.hid hmd
  have HL := Lib.hid hst
  have HP := Lib.hid hpr
  have HN := Lib.hid hnx
  have H00 := Lib.hid h00
  have HE := Lib.hid hE
  clear h1 h3 hx1 hx2 hD hpD hhR hmd hst hpr hnx h00 hE
  have hsI : (s.size : Int) ≤ 140737488355328 := by omega
  have hpI : (p.size : Int) = (L : Int) := by omega
  have hxI : (x.size : Int) = (n : Int) := by omega
  have hhI : (h.size : Int) = 32 := by omega
  have hL1I : (n : Int) < (L : Int) := by omega
  have hL2I : (L : Int) ≤ (n : Int) + 136 := by omega
  have hnI : (n : Int) ≤ 600 := by omega
  have hLn : ¬ (L ≤ n) := by omega
  have hLn2 : ¬ ((n : Int) + 136 < (L : Int)) := by omega
  have hxb : (x.toList == x.toList) = true := beq_self_eq_true _
  go_enter Tryd.func4, Tryd.ntmps4
  go_wp2_with fail
  refine (H0.out _ HT).mono ?_
  rintro e w1 ⟨rfl, Q⟩
  have HT := HT.later Q
  clear H0
  by_cases hs : 600 < s.size
  · have hsc : (600 : Int) < (s.size : Int) := by omega
    have hcut := HX2.out hs
    clear HX1 HX2
    go_wp2_with fail
    refine (H1.out _).mono ?_
    rintro e w2 ⟨rfl, q⟩
    have HT := HT.later q
    have Q := Q.trans (q.mono Q.size)
    clear q H1
    have LA := Has.new w2 24 #[.int .u64 0, .int .u64 0, .int .u64 0, .int .u64 0, .int .u64 0, .int .u64 0, .int .u64 0, .int .u64 0, .int .u64 0, .int .u64 0, .int .u64 0, .int .u64 0, .int .u64 0, .int .u64 0, .int .u64 0, .int .u64 0, .int .u64 0, .int .u64 0, .int .u64 0, .int .u64 0, .int .u64 0, .int .u64 0, .int .u64 0, .int .u64 0, .int .u64 0]
    have hw2 := Q.size
    have HT := HT.alloc (.cells #[.int .u64 0, .int .u64 0, .int .u64 0, .int .u64 0, .int .u64 0, .int .u64 0, .int .u64 0, .int .u64 0, .int .u64 0, .int .u64 0, .int .u64 0, .int .u64 0, .int .u64 0, .int .u64 0, .int .u64 0, .int .u64 0, .int .u64 0, .int .u64 0, .int .u64 0, .int .u64 0, .int .u64 0, .int .u64 0, .int .u64 0, .int .u64 0, .int .u64 0] 24)
    have Q := Q.alloc Q.size (.cells #[.int .u64 0, .int .u64 0, .int .u64 0, .int .u64 0, .int .u64 0, .int .u64 0, .int .u64 0, .int .u64 0, .int .u64 0, .int .u64 0, .int .u64 0, .int .u64 0, .int .u64 0, .int .u64 0, .int .u64 0, .int .u64 0, .int .u64 0, .int .u64 0, .int .u64 0, .int .u64 0, .int .u64 0, .int .u64 0, .int .u64 0, .int .u64 0, .int .u64 0] 24)
    rw [show (#[.int .u64 0, .int .u64 0, .int .u64 0, .int .u64 0, .int .u64 0, .int .u64 0, .int .u64 0, .int .u64 0, .int .u64 0, .int .u64 0, .int .u64 0, .int .u64 0, .int .u64 0, .int .u64 0, .int .u64 0, .int .u64 0, .int .u64 0, .int .u64 0, .int .u64 0, .int .u64 0, .int .u64 0, .int .u64 0, .int .u64 0, .int .u64 0, .int .u64 0] : Array Value) = luC 25 (fun _ => 0) from rfl, ← H00.out] at LA
    go_wp2
    rw [show (#[.int .u64 0, .int .u64 0, .int .u64 0, .int .u64 0, .int .u64 0, .int .u64 0, .int .u64 0, .int .u64 0, .int .u64 0, .int .u64 0, .int .u64 0, .int .u64 0, .int .u64 0, .int .u64 0, .int .u64 0, .int .u64 0, .int .u64 0, .int .u64 0, .int .u64 0, .int .u64 0, .int .u64 0, .int .u64 0, .int .u64 0, .int .u64 0, .int .u64 0] : Array Value) = luC 25 (fun _ => 0) from rfl, ← H00.out]
    rw [show (#[.int .u64 0, .int .u64 0, .int .u64 0, .int .u64 0, .int .u64 0, .int .u64 0, .int .u64 0, .int .u64 0, .int .u64 0, .int .u64 0, .int .u64 0, .int .u64 0, .int .u64 0, .int .u64 0, .int .u64 0, .int .u64 0, .int .u64 0, .int .u64 0, .int .u64 0, .int .u64 0, .int .u64 0, .int .u64 0, .int .u64 0, .int .u64 0, .int .u64 0] : Array Value) = luC 25 (fun _ => 0) from rfl, ← H00.out] at HT Q
    obtain ⟨W0, hW0⟩ : ∃ W0, w2.alloc (.cells (luC 25 (st 0)) 24) = W0 := ⟨_, rfl⟩
    rw [hW0] at LA HT Q ⊢
    clear hW0
    generalize w2.heap.size = A0 at *
    have hA0 : 0 < A0 := by omega
    go_loopw [7] (fun i wr => ∃ k : Nat, k ≤ L ∧ i = .int .i64 (k : Int) ∧ Has wr A0 24 (luC 25 (st k)) ∧ Tab wr ∧ Below w.heap.size w wr) (fun i _ => L - (intOf i).toNat)
    case atStart => exact ⟨0, by omega, rfl, LA, HT, Q⟩
    case round =>
      clear LA HT Q
      obtain ⟨k, hk, rfl, LA, HT, Q⟩ := hrel
      by_cases hlt : k < L
      · have hkI : (k : Int) < (L : Int) := by omega
        have e0 : (k : Int).tmod 136 = ((k % 136 : Nat) : Int) := by rw [Int.tmod_eq_emod_of_nonneg (by omega)]; omega
        have hr : k % 136 < 136 := Nat.mod_lt _ (by omega)
        have hmid := HM.out k hlt
        have hbnd := HL.out k (k % 136 / 8)
        have HPR := Lib.hid (HP.out k hlt)
        have HNX := Lib.hid (HN.out k hlt)
        have hd8 := HD.out k
        have hpk := HPD.out k hlt
        have hpN : k < p.size := by omega
        have HLT := Lib.hid hlt
        clear HM HL HP HN HD
        obtain ⟨r, hre⟩ : ∃ r, k % 136 = r := ⟨_, rfl⟩
        rw [hre] at e0 hr hmid hbnd HPR HNX
        clear hre
        have e1 : (r : Int).tdiv 8 = ((r / 8 : Nat) : Int) := by rw [Int.tdiv_eq_ediv_of_nonneg (by omega)]; omega
        have e2 : (r : Int).tmod 8 = ((r % 8 : Nat) : Int) := by rw [Int.tmod_eq_emod_of_nonneg (by omega)]; omega
        have e3 : 8 * ((r % 8 : Nat) : Int) = ((8 * (r % 8) : Nat) : Int) := by omega
        have hw8 := sh_wrap (D k) r hd8
        have hx8 := xor_i (st k (r / 8)) (D k * 2 ^ (8 * (r % 8))) hbnd (sh_lt _ _ hd8)
        have h8 : r / 8 < 25 := by omega
        have hs64 : 8 * (r % 8) < 64 := by omega
        have hrI : (r : Int) < 136 := by omega
        have kA : ∀ x : Ext wr, x.w.cell? ⟨A0, r / 8, none⟩ = some (.int .u64 ((st k (r / 8) : Nat) : Int)) := fun x => (LA.later x.below).cell _ _ (luC_get 25 _ _ h8)
        have kz : ∀ x : Ext wr, x.w.frozen? ⟨A0, r / 8, none⟩ = false := fun x => (LA.later x.below).frozen _
        have HA := Lib.hid LA
        have HTT := Lib.hid HT
        have HQ := Lib.hid Q
        clear hlt hk LA HT Q hbnd
        generalize st k (r / 8) ^^^ (D k * 2 ^ (8 * (r % 8))) = xv at *
        generalize st k (r / 8) = c at *
        generalize D k * 2 ^ (8 * (r % 8)) = v at *
        generalize D k = d at *
        generalize 8 * (r % 8) = s8 at *
        generalize r % 8 = k8 at *
        generalize r / 8 = i8 at *
        have hd8I : (d : Int) < 256 := by omega
        have hsI8 : (s8 : Int) < 64 := by omega
        have h8I : (i8 : Int) < 25 := by omega
        have HS' := Lib.hid hmid
        clear hmid h8 hs64 hd8
        go_wp2_with fail
        refine wp_region_mix (C := Grows wr) [some true, some true, some true, some true, some true, some true, some true, some true, some true, some true, some true, some true, some true, some true, some true, some true, none] hmx (by kernel_rfl) (by kernel_rfl) (grows_refl wr) ?_
        simp only [headOf, tailOf]
        repeat (go_big_quiet_step (fail))
        refine wpQuiet_nil ?_
        rintro _ ⟨x, rfl⟩
        have N1 := (HA.out.later x.below).set i8 (.int .u64 ((xv : Nat) : Int))
        rw [luC_set 25 _ (md k) i8 xv HS'.out] at N1
        have G1 := Lib.hid N1
        have G2 := Lib.hid ((HTT.out.later x.below).other (p := ⟨A0, i8, none⟩) hA0 (.int .u64 ((xv : Nat) : Int)))
        have G3 := Lib.hid ((HQ.out.trans (x.below.mono HQ.out.size)).setCell (p := ⟨A0, i8, none⟩) hw2 (.int .u64 ((xv : Nat) : Int)))
        have kA' := kA x
        have kz' := kz x
        clear kA kz N1 HA HTT HQ
        have hkI2 : (k : Int) < 1000 := by omega
        by_cases h135 : r = 135
        · subst h135
          have hP := HPR.out rfl
          have HPP := Lib.hid hP
          clear HPR HNX hP
          go_wp2
          rw [calmPost_normal]
          obtain ⟨W5, hW5⟩ : ∃ W5, x.w.setCell ⟨A0, i8, none⟩ (.int .u64 ((xv : Nat) : Int)) = W5 := ⟨_, rfl⟩
          have G1 := G1.out
          have HT := G2.out
          have Q := G3.out
          rw [hW5] at G1 HT Q ⊢
          clear hW5 G2 G3 kA' kz'
          have HLA := Lib.hid (load25 G1)
          go_wp2_with (refine wpList_loadB rfl _ _ rfl A0 rfl _ HLA.out ?_)
          refine (HPP.out _ HT).mono ?_
          rintro e w3 ⟨rfl, q⟩
          have HT := HT.later q
          have Q := Q.trans (q.mono Q.size)
          have L3 := G1.later q
          clear q HLA HPP G1
          have HL3 := Lib.hid L3
          have N1 := Lib.hid (show Has (w3.setRow A0 (luC 25 (st (k + 1)))) A0 24 (luC 25 (st (k + 1))) from L3.row)
          have N2 := Lib.hid (HT.row hA0 (luC 25 (st (k + 1))))
          have N3 := Lib.hid (below_row Q hw2 (luC 25 (st (k + 1))))
          have HIR := Lib.hid (infoL (st (k + 1)))
          have HOR := Lib.hid (one_luC 25 (st (k + 1)))
          clear L3 HT Q
          go_wp2_with (refine wpList_storeB rfl _ _ _ rfl A0 (luC 25 (st (k + 1))) rfl rfl _ _ HL3.out HIR.out (by rw [luC_size, luC_size]) HOR.out ?_)
          go_roundw
          case rel => exact ⟨k + 1, by have := HLT.out; omega, by simp, N1.out, N2.out, N3.out⟩
          case measure => simp [intOf]; have := HLT.out; omega
        · have h135I : ((r : Int) == 135) = false := beq_eq_false_iff_ne.2 (by omega)
          have hN := HNX.out h135
          have G1' := G1.out
          rw [hN] at G1'
          have G1 := Lib.hid G1'
          clear HPR HNX hN G1'
          go_wp2
          rw [calmPost_normal]
          go_wp2
          go_roundw
          case rel => exact ⟨k + 1, by have := HLT.out; omega, by simp, G1.out, G2.out, G3.out⟩
          case measure => simp [intOf]; have := HLT.out; omega
      · obtain rfl : k = L := by omega
        rw [HE.out] at LA
        clear hk hlt HM HL HP HN HD
        go_wp2_with fail
        refine (H3.out _ HT).mono ?_
        rintro e w4 ⟨rfl, q⟩
        have LR := LA.later q
        have Q := Q.trans (q.mono Q.size)
        clear q H3 HT LA
        go_wp2
        go_loopw [11] (fun i wr => ∃ k : Nat, k ≤ 32 ∧ i = .int .i64 (k : Int) ∧ Has wr A0 24 (luC 25 R) ∧ Below w.heap.size w wr) (fun i _ => 32 - (intOf i).toNat)
        case atStart => exact ⟨0, by omega, rfl, LR, Q⟩
        case round =>
          clear LR Q
          obtain ⟨k, hk, rfl, LR, Q⟩ := hrel
          by_cases hlt : k < 32
          · have hkI : (k : Int) < 32 := by omega
            have e1 : (k : Int).tdiv 8 = ((k / 8 : Nat) : Int) := by rw [Int.tdiv_eq_ediv_of_nonneg (by omega)]; omega
            have e2 : (k : Int).tmod 8 = ((k % 8 : Nat) : Int) := by rw [Int.tmod_eq_emod_of_nonneg (by omega)]; omega
            have e3 : 8 * ((k % 8 : Nat) : Int) = ((8 * (k % 8) : Nat) : Int) := by omega
            have hw := sq_wrap R k
            have hh8 := HH.out k hlt
            have hhN : k < h.size := by omega
            have h8 : k / 8 < 25 := by omega
            have kA : ∀ x : Ext wr, x.w.cell? ⟨A0, k / 8, none⟩ = some (.int .u64 ((R (k / 8) : Nat) : Int)) := fun x => (LR.later x.below).cell _ _ (luC_get 25 R (k / 8) h8)
            have hs64 : 8 * (k % 8) < 64 := by omega
            have HLT := Lib.hid hlt
            have HL := Lib.hid LR
            have HQ := Lib.hid Q
            clear hlt hk LR Q
            generalize sqB R k = r at *
            generalize R (k / 8) = c at *
            generalize 8 * (k % 8) = s8 at *
            generalize k % 8 = k8 at *
            generalize k / 8 = i8 at *
            have hsI8 : (s8 : Int) < 64 := by omega
            have h8I : (i8 : Int) < 25 := by omega
            clear h8 hs64
            go_wp2_with fail
            try simp only [List.append]
            refine wp_region_quick (C := Grows wr) (by kernel_rfl) (by kernel_rfl) (by kernel_rfl) (grows_refl wr) ?_
            repeat (go_big_quiet_step (fail))
            refine wpQuiet_nil ?_
            rintro _ ⟨x, rfl⟩
            have N1 := Lib.hid (HL.out.later x.below)
            have N2 := Lib.hid (HQ.out.trans (x.below.mono HQ.out.size))
            clear kA
            go_wp2
            go_roundw
            case rel => exact ⟨k + 1, by have := HLT.out; omega, by simp, N1.out, N2.out⟩
            case measure => simp [intOf]; omega
          · obtain rfl : k = 32 := by omega
            have HQ := Lib.hid Q
            clear LR Q hk hlt
            go_wp2
            go_ret
            exact ⟨rfl, HQ.out⟩
  · obtain rfl : x = s := HX1.out (by omega)
    have hsc : ¬ (600 : Int) < (n : Int) := by omega
    clear HX1 HX2
    go_wp2_with fail
    refine (H1.out _).mono ?_
    rintro e w2 ⟨rfl, q⟩
    have HT := HT.later q
    have Q := Q.trans (q.mono Q.size)
    clear q H1
    have LA := Has.new w2 24 #[.int .u64 0, .int .u64 0, .int .u64 0, .int .u64 0, .int .u64 0, .int .u64 0, .int .u64 0, .int .u64 0, .int .u64 0, .int .u64 0, .int .u64 0, .int .u64 0, .int .u64 0, .int .u64 0, .int .u64 0, .int .u64 0, .int .u64 0, .int .u64 0, .int .u64 0, .int .u64 0, .int .u64 0, .int .u64 0, .int .u64 0, .int .u64 0, .int .u64 0]
    have hw2 := Q.size
    have HT := HT.alloc (.cells #[.int .u64 0, .int .u64 0, .int .u64 0, .int .u64 0, .int .u64 0, .int .u64 0, .int .u64 0, .int .u64 0, .int .u64 0, .int .u64 0, .int .u64 0, .int .u64 0, .int .u64 0, .int .u64 0, .int .u64 0, .int .u64 0, .int .u64 0, .int .u64 0, .int .u64 0, .int .u64 0, .int .u64 0, .int .u64 0, .int .u64 0, .int .u64 0, .int .u64 0] 24)
    have Q := Q.alloc Q.size (.cells #[.int .u64 0, .int .u64 0, .int .u64 0, .int .u64 0, .int .u64 0, .int .u64 0, .int .u64 0, .int .u64 0, .int .u64 0, .int .u64 0, .int .u64 0, .int .u64 0, .int .u64 0, .int .u64 0, .int .u64 0, .int .u64 0, .int .u64 0, .int .u64 0, .int .u64 0, .int .u64 0, .int .u64 0, .int .u64 0, .int .u64 0, .int .u64 0, .int .u64 0] 24)
    rw [show (#[.int .u64 0, .int .u64 0, .int .u64 0, .int .u64 0, .int .u64 0, .int .u64 0, .int .u64 0, .int .u64 0, .int .u64 0, .int .u64 0, .int .u64 0, .int .u64 0, .int .u64 0, .int .u64 0, .int .u64 0, .int .u64 0, .int .u64 0, .int .u64 0, .int .u64 0, .int .u64 0, .int .u64 0, .int .u64 0, .int .u64 0, .int .u64 0, .int .u64 0] : Array Value) = luC 25 (fun _ => 0) from rfl, ← H00.out] at LA
    go_wp2
    rw [show (#[.int .u64 0, .int .u64 0, .int .u64 0, .int .u64 0, .int .u64 0, .int .u64 0, .int .u64 0, .int .u64 0, .int .u64 0, .int .u64 0, .int .u64 0, .int .u64 0, .int .u64 0, .int .u64 0, .int .u64 0, .int .u64 0, .int .u64 0, .int .u64 0, .int .u64 0, .int .u64 0, .int .u64 0, .int .u64 0, .int .u64 0, .int .u64 0, .int .u64 0] : Array Value) = luC 25 (fun _ => 0) from rfl, ← H00.out]
    rw [show (#[.int .u64 0, .int .u64 0, .int .u64 0, .int .u64 0, .int .u64 0, .int .u64 0, .int .u64 0, .int .u64 0, .int .u64 0, .int .u64 0, .int .u64 0, .int .u64 0, .int .u64 0, .int .u64 0, .int .u64 0, .int .u64 0, .int .u64 0, .int .u64 0, .int .u64 0, .int .u64 0, .int .u64 0, .int .u64 0, .int .u64 0, .int .u64 0, .int .u64 0] : Array Value) = luC 25 (fun _ => 0) from rfl, ← H00.out] at HT Q
    obtain ⟨W0, hW0⟩ : ∃ W0, w2.alloc (.cells (luC 25 (st 0)) 24) = W0 := ⟨_, rfl⟩
    rw [hW0] at LA HT Q ⊢
    clear hW0
    generalize w2.heap.size = A0 at *
    have hA0 : 0 < A0 := by omega
    go_loopw [7] (fun i wr => ∃ k : Nat, k ≤ L ∧ i = .int .i64 (k : Int) ∧ Has wr A0 24 (luC 25 (st k)) ∧ Tab wr ∧ Below w.heap.size w wr) (fun i _ => L - (intOf i).toNat)
    case atStart => exact ⟨0, by omega, rfl, LA, HT, Q⟩
    case round =>
      clear LA HT Q
      obtain ⟨k, hk, rfl, LA, HT, Q⟩ := hrel
      by_cases hlt : k < L
      · have hkI : (k : Int) < (L : Int) := by omega
        have e0 : (k : Int).tmod 136 = ((k % 136 : Nat) : Int) := by rw [Int.tmod_eq_emod_of_nonneg (by omega)]; omega
        have hr : k % 136 < 136 := Nat.mod_lt _ (by omega)
        have hmid := HM.out k hlt
        have hbnd := HL.out k (k % 136 / 8)
        have HPR := Lib.hid (HP.out k hlt)
        have HNX := Lib.hid (HN.out k hlt)
        have hd8 := HD.out k
        have hpk := HPD.out k hlt
        have hpN : k < p.size := by omega
        have HLT := Lib.hid hlt
        clear HM HL HP HN HD
        obtain ⟨r, hre⟩ : ∃ r, k % 136 = r := ⟨_, rfl⟩
        rw [hre] at e0 hr hmid hbnd HPR HNX
        clear hre
        have e1 : (r : Int).tdiv 8 = ((r / 8 : Nat) : Int) := by rw [Int.tdiv_eq_ediv_of_nonneg (by omega)]; omega
        have e2 : (r : Int).tmod 8 = ((r % 8 : Nat) : Int) := by rw [Int.tmod_eq_emod_of_nonneg (by omega)]; omega
        have e3 : 8 * ((r % 8 : Nat) : Int) = ((8 * (r % 8) : Nat) : Int) := by omega
        have hw8 := sh_wrap (D k) r hd8
        have hx8 := xor_i (st k (r / 8)) (D k * 2 ^ (8 * (r % 8))) hbnd (sh_lt _ _ hd8)
        have h8 : r / 8 < 25 := by omega
        have hs64 : 8 * (r % 8) < 64 := by omega
        have hrI : (r : Int) < 136 := by omega
        have kA : ∀ x : Ext wr, x.w.cell? ⟨A0, r / 8, none⟩ = some (.int .u64 ((st k (r / 8) : Nat) : Int)) := fun x => (LA.later x.below).cell _ _ (luC_get 25 _ _ h8)
        have kz : ∀ x : Ext wr, x.w.frozen? ⟨A0, r / 8, none⟩ = false := fun x => (LA.later x.below).frozen _
        have HA := Lib.hid LA
        have HTT := Lib.hid HT
        have HQ := Lib.hid Q
        clear hlt hk LA HT Q hbnd
        generalize st k (r / 8) ^^^ (D k * 2 ^ (8 * (r % 8))) = xv at *
        generalize st k (r / 8) = c at *
        generalize D k * 2 ^ (8 * (r % 8)) = v at *
        generalize D k = d at *
        generalize 8 * (r % 8) = s8 at *
        generalize r % 8 = k8 at *
        generalize r / 8 = i8 at *
        have hd8I : (d : Int) < 256 := by omega
        have hsI8 : (s8 : Int) < 64 := by omega
        have h8I : (i8 : Int) < 25 := by omega
        have HS' := Lib.hid hmid
        clear hmid h8 hs64 hd8
        go_wp2_with fail
        refine wp_region_mix (C := Grows wr) [some true, some true, some true, some true, some true, some true, some true, some true, some true, some true, some true, some true, some true, some true, some true, some true, none] hmx (by kernel_rfl) (by kernel_rfl) (grows_refl wr) ?_
        simp only [headOf, tailOf]
        repeat (go_big_quiet_step (fail))
        refine wpQuiet_nil ?_
        rintro _ ⟨x, rfl⟩
        have N1 := (HA.out.later x.below).set i8 (.int .u64 ((xv : Nat) : Int))
        rw [luC_set 25 _ (md k) i8 xv HS'.out] at N1
        have G1 := Lib.hid N1
        have G2 := Lib.hid ((HTT.out.later x.below).other (p := ⟨A0, i8, none⟩) hA0 (.int .u64 ((xv : Nat) : Int)))
        have G3 := Lib.hid ((HQ.out.trans (x.below.mono HQ.out.size)).setCell (p := ⟨A0, i8, none⟩) hw2 (.int .u64 ((xv : Nat) : Int)))
        have kA' := kA x
        have kz' := kz x
        clear kA kz N1 HA HTT HQ
        have hkI2 : (k : Int) < 1000 := by omega
        by_cases h135 : r = 135
        · subst h135
          have hP := HPR.out rfl
          have HPP := Lib.hid hP
          clear HPR HNX hP
          go_wp2
          rw [calmPost_normal]
          obtain ⟨W5, hW5⟩ : ∃ W5, x.w.setCell ⟨A0, i8, none⟩ (.int .u64 ((xv : Nat) : Int)) = W5 := ⟨_, rfl⟩
          have G1 := G1.out
          have HT := G2.out
          have Q := G3.out
          rw [hW5] at G1 HT Q ⊢
          clear hW5 G2 G3 kA' kz'
          have HLA := Lib.hid (load25 G1)
          go_wp2_with (refine wpList_loadB rfl _ _ rfl A0 rfl _ HLA.out ?_)
          refine (HPP.out _ HT).mono ?_
          rintro e w3 ⟨rfl, q⟩
          have HT := HT.later q
          have Q := Q.trans (q.mono Q.size)
          have L3 := G1.later q
          clear q HLA HPP G1
          have HL3 := Lib.hid L3
          have N1 := Lib.hid (show Has (w3.setRow A0 (luC 25 (st (k + 1)))) A0 24 (luC 25 (st (k + 1))) from L3.row)
          have N2 := Lib.hid (HT.row hA0 (luC 25 (st (k + 1))))
          have N3 := Lib.hid (below_row Q hw2 (luC 25 (st (k + 1))))
          have HIR := Lib.hid (infoL (st (k + 1)))
          have HOR := Lib.hid (one_luC 25 (st (k + 1)))
          clear L3 HT Q
          go_wp2_with (refine wpList_storeB rfl _ _ _ rfl A0 (luC 25 (st (k + 1))) rfl rfl _ _ HL3.out HIR.out (by rw [luC_size, luC_size]) HOR.out ?_)
          go_roundw
          case rel => exact ⟨k + 1, by have := HLT.out; omega, by simp, N1.out, N2.out, N3.out⟩
          case measure => simp [intOf]; have := HLT.out; omega
        · have h135I : ((r : Int) == 135) = false := beq_eq_false_iff_ne.2 (by omega)
          have hN := HNX.out h135
          have G1' := G1.out
          rw [hN] at G1'
          have G1 := Lib.hid G1'
          clear HPR HNX hN G1'
          go_wp2
          rw [calmPost_normal]
          go_wp2
          go_roundw
          case rel => exact ⟨k + 1, by have := HLT.out; omega, by simp, G1.out, G2.out, G3.out⟩
          case measure => simp [intOf]; have := HLT.out; omega
      · obtain rfl : k = L := by omega
        rw [HE.out] at LA
        clear hk hlt HM HL HP HN HD
        go_wp2_with fail
        refine (H3.out _ HT).mono ?_
        rintro e w4 ⟨rfl, q⟩
        have LR := LA.later q
        have Q := Q.trans (q.mono Q.size)
        clear q H3 HT LA
        go_wp2
        go_loopw [11] (fun i wr => ∃ k : Nat, k ≤ 32 ∧ i = .int .i64 (k : Int) ∧ Has wr A0 24 (luC 25 R) ∧ Below w.heap.size w wr) (fun i _ => 32 - (intOf i).toNat)
        case atStart => exact ⟨0, by omega, rfl, LR, Q⟩
        case round =>
          clear LR Q
          obtain ⟨k, hk, rfl, LR, Q⟩ := hrel
          by_cases hlt : k < 32
          · have hkI : (k : Int) < 32 := by omega
            have e1 : (k : Int).tdiv 8 = ((k / 8 : Nat) : Int) := by rw [Int.tdiv_eq_ediv_of_nonneg (by omega)]; omega
            have e2 : (k : Int).tmod 8 = ((k % 8 : Nat) : Int) := by rw [Int.tmod_eq_emod_of_nonneg (by omega)]; omega
            have e3 : 8 * ((k % 8 : Nat) : Int) = ((8 * (k % 8) : Nat) : Int) := by omega
            have hw := sq_wrap R k
            have hh8 := HH.out k hlt
            have hhN : k < h.size := by omega
            have h8 : k / 8 < 25 := by omega
            have kA : ∀ x : Ext wr, x.w.cell? ⟨A0, k / 8, none⟩ = some (.int .u64 ((R (k / 8) : Nat) : Int)) := fun x => (LR.later x.below).cell _ _ (luC_get 25 R (k / 8) h8)
            have hs64 : 8 * (k % 8) < 64 := by omega
            have HLT := Lib.hid hlt
            have HL := Lib.hid LR
            have HQ := Lib.hid Q
            clear hlt hk LR Q
            generalize sqB R k = r at *
            generalize R (k / 8) = c at *
            generalize 8 * (k % 8) = s8 at *
            generalize k % 8 = k8 at *
            generalize k / 8 = i8 at *
            have hsI8 : (s8 : Int) < 64 := by omega
            have h8I : (i8 : Int) < 25 := by omega
            clear h8 hs64
            go_wp2_with fail
            try simp only [List.append]
            refine wp_region_quick (C := Grows wr) (by kernel_rfl) (by kernel_rfl) (by kernel_rfl) (grows_refl wr) ?_
            repeat (go_big_quiet_step (fail))
            refine wpQuiet_nil ?_
            rintro _ ⟨x, rfl⟩
            have N1 := Lib.hid (HL.out.later x.below)
            have N2 := Lib.hid (HQ.out.trans (x.below.mono HQ.out.size))
            clear kA
            go_wp2
            go_roundw
            case rel => exact ⟨k + 1, by have := HLT.out; omega, by simp, N1.out, N2.out⟩
            case measure => simp [intOf]; omega
          · obtain rfl : k = 32 := by omega
            have HQ := Lib.hid Q
            clear LR Q hk hlt
            go_wp2
            go_ret
            exact ⟨rfl, HQ.out⟩

/-- The lanes behind i bytes. -/
def stN (p : ByteArray) (i : Nat) : Nat → Nat := absN (blkN p (i / 136)) (fun j => byN p (136 * (i / 136) + j)) (i % 136)
theorem kBlocks_ret (s : ByteArray) (hs : s.size ≤ 140737488355328) : RetT Tryd.prog 4 #[.string s] (.bool true) := by
  obtain ⟨x, hx⟩ : ∃ x, (if s.size ≤ 600 then s else s.extract 0 600) = x := ⟨_, rfl⟩
  have hxs : x.size ≤ 600 := by
    rw [← hx]
    split
    · assumption
    · rw [ByteArray.size_extract]; omega
  have hps := padS_size x
  have hm := Nat.mul_mod_right 136 (x.size / 136 + 1)
  refine blocks_walk s x (padS x) (sumS x) x.size (136 * (x.size / 136 + 1)) (byN (padS x)) (stN (padS x)) (fun k => absN (blkN (padS x) (k / 136)) (fun j => byN (padS x) (136 * (k / 136) + j)) (k % 136 + 1)) (blkN (padS x) (x.size / 136 + 1)) hs
    (fun h => by rw [← hx, if_pos h]) (fun h => by rw [← hx, if_neg (by omega)]) rfl hxs hps (by omega) (by omega) ?_ ?_ (byN_lt _) (fun j hj g => by rw [byN_at (padS x) j g]; rfl) (fun k j => absN_lt _ _ (blkN_lt _ _) (fun _ => byN_lt _ _) _ j) rfl ?_ ?_ ?_ ?_ (sumS_size x) (fun j hj g => sq_at _ j hj g)
    (pad_ret x (by omega)) (sum_ret x (by omega))
  · rw [Int.tmod_eq_emod_of_nonneg (by omega)]; omega
  · apply ByteArray.ext
    apply Array.toList_inj.1
    rw [ByteArray.data_extract, Array.toList_extract, padS_list]
    simp [List.extract]
  · unfold stN
    rw [Nat.mul_mod_right, Nat.mul_div_cancel_left _ (by omega)]
    rfl
  · intro k hk i hi
    show absN _ _ (k % 136 + 1) i = _
    rw [abs_at]
    unfold stN
    rw [show 136 * (k / 136) + k % 136 = k by omega]
  · intro k hk hr
    unfold stN
    rw [show (k + 1) / 136 = k / 136 by omega, show (k + 1) % 136 = k % 136 + 1 by omega]
  · intro k hk hr
    unfold stN
    rw [show (k + 1) / 136 = k / 136 + 1 by omega, show (k + 1) % 136 = 0 by omega, hr]
    exact permute_ret _ (absN_lt _ _ (blkN_lt _ _) (fun _ => byN_lt _ _) 136)
end Go.Proofs.YtcjdcalfndicbaaDoor
