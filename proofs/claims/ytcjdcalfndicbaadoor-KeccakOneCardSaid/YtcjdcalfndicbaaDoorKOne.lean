/- A text that fills no block is hashed by one Permute of its pad: the walk, and the answer. -/
import Derived.Test.YtcjdcalfndicbaaDoorKecR
import Derived.Deep.WholeRow
namespace Go.Proofs.YtcjdcalfndicbaaDoor
open Go Go.RowKit Go.Shelf
attribute [local go_sem] Oper.semAt_some Grows wide_fn field0

theorem sq_wrap (A : Nat → Nat) (k : Nat) : IntKind.u8.wrap (((A (k / 8) : Nat) : Int) / 2 ^ (8 * (k % 8))) = ((sqB A k : Nat) : Int) := by
  rw [show (((A (k / 8) : Nat) : Int) / 2 ^ (8 * (k % 8))) = ((A (k / 8) / 2 ^ (8 * (k % 8)) : Nat) : Int) by rw [Int.natCast_ediv, Int.natCast_pow]; rfl]
  unfold sqB
  simp only [IntKind.wrap, IntKind.bits, IntKind.signed]
  generalize A (k / 8) / 2 ^ (8 * (k % 8)) = q
  simp
theorem sh_wrap (d k : Nat) (hd : d < 256) : IntKind.u64.wrap ((d : Int) * 2 ^ (8 * (k % 8))) = ((d * 2 ^ (8 * (k % 8)) : Nat) : Int) := by
  have := sh_lt d k hd
  rw [IntKind.wrap_u64, show ((d : Int) * 2 ^ (8 * (k % 8))) = ((d * 2 ^ (8 * (k % 8)) : Nat) : Int) by rw [Int.natCast_mul, Int.natCast_pow]; rfl]
  omega
theorem sq_at (A : Nat → Nat) (k : Nat) (hk : k < 32) (h : k < (sqS A).size) : (((sqS A)[k]'h).toNat : Int) = ((sqB A k : Nat) : Int) := by
  have e : (sqS A).data.toList[k]? = some (UInt8.ofNat (sqB A k)) := by
    simp [sqS, hk]
  have h3 : k < (sqS A).data.size := h
  rw [Array.getElem?_toList, Array.getElem?_eq_getElem h3] at e
  have e2 : (sqS A)[k]'h = UInt8.ofNat (sqB A k) := Option.some.inj e
  rw [e2, UInt8.toNat_ofNat', Nat.mod_eq_of_lt (show sqB A k < 2 ^ 8 from sqB_lt A k)]
theorem xr_small (D : Nat → Nat) (hD : ∀ j, D j < 256) (j : Nat) : ∀ t, xr (fun _ => 0) D j t < 2 ^ (8 * t)
  | 0 => by show 0 < _; exact Nat.two_pow_pos _
  | t + 1 => by
    have h := xr_small D hD j t
    have h2 : D (8 * j + t) * 2 ^ (8 * t) < 2 ^ (8 * (t + 1)) := by
      rw [show 8 * (t + 1) = 8 + 8 * t by omega, Nat.pow_add]
      exact Nat.mul_lt_mul_of_pos_right (hD _) (Nat.two_pow_pos _)
    exact Nat.xor_lt_two_pow (Nat.lt_of_lt_of_le h (Nat.pow_le_pow_right (by omega) (by omega))) h2
theorem or_xor (a d t : Nat) (h : a < 2 ^ t) : a ||| d * 2 ^ t = a ^^^ (d * 2 ^ t) := by
  refine Nat.eq_of_testBit_eq fun z => ?_
  rw [Nat.testBit_or, Nat.testBit_xor, Nat.mul_comm, Nat.testBit_two_pow_mul]
  by_cases hz : t ≤ z
  · rw [Nat.testBit_lt_two_pow (Nat.lt_of_lt_of_le h (Nat.pow_le_pow_right (by omega) hz))]
    simp
  · rw [decide_eq_false hz, Bool.false_and, Bool.or_false, Bool.xor_false]
theorem or_step (D : Nat → Nat) (hD : ∀ j, D j < 256) (k : Nat) : bits .or .u64 ((absN (fun _ => 0) D k (k / 8) : Nat) : Int) ((D k * 2 ^ (8 * (k % 8)) : Nat) : Int) = ((absN (fun _ => 0) D k (k / 8) ^^^ (D k * 2 ^ (8 * (k % 8))) : Nat) : Int) := by
  have h1 := absN_lt (fun _ => 0) D (fun _ => by decide) hD k (k / 8)
  rw [bits_or_u64_nat _ _ h1 (sh_lt _ _ (hD k)), or_xor]
  rw [absN_xr, show min (k - 8 * (k / 8)) 8 = k % 8 by omega]
  exact xr_small D hD _ _
theorem abs_at (A D : Nat → Nat) (k i : Nat) : absN A D (k + 1) i = if i = k / 8 then absN A D k (k / 8) ^^^ (D k * 2 ^ (8 * (k % 8))) else absN A D k i := by
  show (if i = k / 8 then absN A D k i ^^^ (D k * 2 ^ (8 * (k % 8))) else absN A D k i) = _
  by_cases e : i = k / 8
  · rw [if_pos e, if_pos e, e]
  · rw [if_neg e, if_neg e]

set_option maxRecDepth 100000 in
set_option maxHeartbeats 4000000 in
theorem one_walk (s x p h : ByteArray) (D R : Nat → Nat) (hss : s.size ≤ 140737488355328) (hx1 : (s.size : Int) ≤ 135 → x = s) (hx2 : 135 ≤ (s.size : Int) → s.extract 0 135 = x) (hp : p.size = 136) (hD : ∀ j, D j < 256) (hpD : ∀ j, j < 136 → ∀ g : j < p.size, ((p[j]'g).toNat : Int) = (D j : Int))
    (hh : h.size = 32) (hhR : ∀ j, j < 32 → ∀ g : j < h.size, ((h[j]'g).toNat : Int) = (sqB R j : Int))
    (h1 : Ret Tryd.prog 16 #[.string x] (.string p)) (h2 : RetT Tryd.prog 11 #[.agg (luC 25 (absN (fun _ => 0) D 136))] (.agg (luC 25 R))) (h3 : RetT Tryd.prog 14 #[.string x] (.tuple #[.string h, .int .i64 0])) :
    RetT Tryd.prog 8 #[.string s] (.bool true) := by
  intro w HT
  have hw0 := HT.lt
  have hmx : Tryd.prog.follows .mixedOrders = true := by kernel_rfl
  have H0 := Lib.hid awake_ret
  have H1 := Lib.hid h1
  have H2 := Lib.hid h2
  have H3 := Lib.hid h3
  have HX1 := Lib.hid hx1
  have HX2 := Lib.hid hx2
  have HD := Lib.hid hD
  have HPD := Lib.hid hpD
  have HH := Lib.hid hhR
  clear h1 h2 h3 hx1 hx2 hD hpD hhR
  have hsI : (s.size : Int) ≤ 140737488355328 := by omega
  have hpI : (p.size : Int) = 136 := by omega
  have hhI : (h.size : Int) = 32 := by omega
  go_enter Tryd.func8, Tryd.ntmps8
  go_wp2_with fail
  refine (H0.out _ HT).mono ?_
  rintro e w1 ⟨rfl, Q⟩
  have HT := HT.later Q
  clear H0
  rcases Int.lt_or_le (s.size : Int) 135 with hc | hc
  · obtain rfl : x = s := HX1.out (by omega)
    clear HX1 HX2
    go_wp2_with fail
    refine (H1.out _).mono ?_
    rintro e w2 ⟨rfl, q⟩
    have HT := HT.later q
    have Q := Q.trans (q.mono Q.size)
    clear q H1
    have LA := Has.new w2 24 #[.int .u64 0, .int .u64 0, .int .u64 0, .int .u64 0, .int .u64 0, .int .u64 0, .int .u64 0, .int .u64 0, .int .u64 0, .int .u64 0, .int .u64 0, .int .u64 0, .int .u64 0, .int .u64 0, .int .u64 0, .int .u64 0, .int .u64 0, .int .u64 0, .int .u64 0, .int .u64 0, .int .u64 0, .int .u64 0, .int .u64 0, .int .u64 0, .int .u64 0]
    have hw2 := Q.size
    have HT := HT.alloc (.cells #[.int .u64 0, .int .u64 0, .int .u64 0, .int .u64 0, .int .u64 0, .int .u64 0, .int .u64 0, .int .u64 0, .int .u64 0, .int .u64 0, .int .u64 0, .int .u64 0, .int .u64 0, .int .u64 0, .int .u64 0, .int .u64 0, .int .u64 0, .int .u64 0, .int .u64 0, .int .u64 0, .int .u64 0, .int .u64 0, .int .u64 0, .int .u64 0, .int .u64 0] 24)
    have Q := Q.alloc Q.size (.cells #[.int .u64 0, .int .u64 0, .int .u64 0, .int .u64 0, .int .u64 0, .int .u64 0, .int .u64 0, .int .u64 0, .int .u64 0, .int .u64 0, .int .u64 0, .int .u64 0, .int .u64 0, .int .u64 0, .int .u64 0, .int .u64 0, .int .u64 0, .int .u64 0, .int .u64 0, .int .u64 0, .int .u64 0, .int .u64 0, .int .u64 0, .int .u64 0, .int .u64 0] 24)
    rw [show (#[.int .u64 0, .int .u64 0, .int .u64 0, .int .u64 0, .int .u64 0, .int .u64 0, .int .u64 0, .int .u64 0, .int .u64 0, .int .u64 0, .int .u64 0, .int .u64 0, .int .u64 0, .int .u64 0, .int .u64 0, .int .u64 0, .int .u64 0, .int .u64 0, .int .u64 0, .int .u64 0, .int .u64 0, .int .u64 0, .int .u64 0, .int .u64 0, .int .u64 0] : Array Value) = luC 25 (absN (fun _ => 0) D 0) from rfl] at LA
    go_wp2
    rw [show (#[.int .u64 0, .int .u64 0, .int .u64 0, .int .u64 0, .int .u64 0, .int .u64 0, .int .u64 0, .int .u64 0, .int .u64 0, .int .u64 0, .int .u64 0, .int .u64 0, .int .u64 0, .int .u64 0, .int .u64 0, .int .u64 0, .int .u64 0, .int .u64 0, .int .u64 0, .int .u64 0, .int .u64 0, .int .u64 0, .int .u64 0, .int .u64 0, .int .u64 0] : Array Value) = luC 25 (absN (fun _ => 0) D 0) from rfl]
    rw [show (#[.int .u64 0, .int .u64 0, .int .u64 0, .int .u64 0, .int .u64 0, .int .u64 0, .int .u64 0, .int .u64 0, .int .u64 0, .int .u64 0, .int .u64 0, .int .u64 0, .int .u64 0, .int .u64 0, .int .u64 0, .int .u64 0, .int .u64 0, .int .u64 0, .int .u64 0, .int .u64 0, .int .u64 0, .int .u64 0, .int .u64 0, .int .u64 0, .int .u64 0] : Array Value) = luC 25 (absN (fun _ => 0) D 0) from rfl] at HT Q
    have hlA : w2.heap.size < (w2.alloc (.cells (luC 25 (absN (fun _ => 0) D 0)) 24)).heap.size := by simp
    obtain ⟨W0, hW0⟩ : ∃ W0, w2.alloc (.cells (luC 25 (absN (fun _ => 0) D 0)) 24) = W0 := ⟨_, rfl⟩
    rw [hW0] at LA HT Q hlA ⊢
    clear hW0
    generalize w2.heap.size = A0 at *
    have hA0 : 0 < A0 := by omega
    go_loopw [7] (fun i wr => ∃ k : Nat, k ≤ 136 ∧ i = .int .i64 (k : Int) ∧ Has wr A0 24 (luC 25 (absN (fun _ => 0) D k)) ∧ Tab wr ∧ Below w.heap.size w wr) (fun i _ => 136 - (intOf i).toNat)
    case atStart => exact ⟨0, by omega, rfl, LA, HT, Q⟩
    case round =>
      clear LA HT Q
      obtain ⟨k, hk, rfl, LA, HT, Q⟩ := hrel
      by_cases hlt : k < 136
      · have hkI : (k : Int) < 136 := by omega
        have e1 : (k : Int).tdiv 8 = ((k / 8 : Nat) : Int) := by rw [Int.tdiv_eq_ediv_of_nonneg (by omega)]; omega
        have e2 : (k : Int).tmod 8 = ((k % 8 : Nat) : Int) := by rw [Int.tmod_eq_emod_of_nonneg (by omega)]; omega
        have e3 : 8 * ((k % 8 : Nat) : Int) = ((8 * (k % 8) : Nat) : Int) := by omega
        have hw8 := sh_wrap (D k) k (HD.out k)
        have hx8 := or_step D HD.out k
        have hS' : ∀ i, i < 25 → absN (fun _ => 0) D (k + 1) i = if i = k / 8 then absN (fun _ => 0) D k (k / 8) ^^^ (D k * 2 ^ (8 * (k % 8))) else absN (fun _ => 0) D k i := fun i _ => abs_at _ D k i
        have h8 : k / 8 < 25 := by omega
        have hs64 : 8 * (k % 8) < 64 := by omega
        have hd8 := HD.out k
        have hpk := HPD.out k hlt
        have hpN : k < p.size := by omega
        have kA : ∀ x : Ext wr, x.w.cell? ⟨A0, k / 8, none⟩ = some (.int .u64 ((absN (fun _ => 0) D k (k / 8) : Nat) : Int)) := fun x => (LA.later x.below).cell _ _ (luC_get 25 _ _ h8)
        have kz : ∀ x : Ext wr, x.w.frozen? ⟨A0, k / 8, none⟩ = false := fun x => (LA.later x.below).frozen _
        have HLT := Lib.hid hlt
        have HA := Lib.hid LA
        have HTT := Lib.hid HT
        have HQ := Lib.hid Q
        clear hlt hk LA HT Q
        generalize absN (fun _ => 0) D k (k / 8) ^^^ (D k * 2 ^ (8 * (k % 8))) = r at *
        generalize absN (fun _ => 0) D k (k / 8) = c at *
        generalize D k * 2 ^ (8 * (k % 8)) = v at *
        generalize D k = d at *
        generalize 8 * (k % 8) = s8 at *
        generalize k % 8 = k8 at *
        generalize k / 8 = i8 at *
        have hd8I : (d : Int) < 256 := by omega
        have hsI8 : (s8 : Int) < 64 := by omega
        have h8I : (i8 : Int) < 25 := by omega
        have HS' := Lib.hid hS'
        clear hS' h8 hs64 hd8
        go_wp2_with fail
        refine wp_region_mix (C := Grows wr) [some true, some true, some true, some true, some true, some true, some true, some true, some true, some true, some true, some true, some true, some true, some true, some true, none] hmx (by kernel_rfl) (by kernel_rfl) (grows_refl wr) ?_
        simp only [headOf, tailOf]
        repeat (go_big_quiet_step (fail))
        refine wpQuiet_nil ?_
        rintro _ ⟨x, rfl⟩
        have N1 := (HA.out.later x.below).set i8 (.int .u64 ((r : Nat) : Int))
        rw [luC_set 25 _ (absN (fun _ => 0) D (k + 1)) i8 r HS'.out] at N1
        have G1 := Lib.hid N1
        have G2 := Lib.hid ((HTT.out.later x.below).other (p := ⟨A0, i8, none⟩) hA0 (.int .u64 ((r : Nat) : Int)))
        have G3 := Lib.hid ((HQ.out.trans (x.below.mono HQ.out.size)).setCell (p := ⟨A0, i8, none⟩) hw2 (.int .u64 ((r : Nat) : Int)))
        have kA' := kA x
        have kz' := kz x
        clear kA kz N1
        go_wp2
        rw [calmPost_normal]
        go_wp2
        go_roundw
        case rel => exact ⟨k + 1, by have := HLT.out; omega, by simp, G1.out, G2.out, G3.out⟩
        case measure => simp [intOf]; omega
      · obtain rfl : k = 136 := by omega
        have HLA := Lib.hid (load25 LA)
        clear hk hlt
        generalize absN (fun _ => 0) D 136 = AB at *
        go_wp2_with (refine wpList_loadB rfl _ _ rfl A0 rfl _ HLA.out ?_)
        clear HLA
        refine (H2.out _ HT).mono ?_
        rintro e w3 ⟨rfl, q⟩
        have HT := HT.later q
        have Q := Q.trans (q.mono Q.size)
        clear q H2 LA
        have LZ := Has.new w3 24 #[.int .u64 0, .int .u64 0, .int .u64 0, .int .u64 0, .int .u64 0, .int .u64 0, .int .u64 0, .int .u64 0, .int .u64 0, .int .u64 0, .int .u64 0, .int .u64 0, .int .u64 0, .int .u64 0, .int .u64 0, .int .u64 0, .int .u64 0, .int .u64 0, .int .u64 0, .int .u64 0, .int .u64 0, .int .u64 0, .int .u64 0, .int .u64 0, .int .u64 0]
        have HLZ := Lib.hid LZ
        have LR : Has ((w3.alloc (.cells #[.int .u64 0, .int .u64 0, .int .u64 0, .int .u64 0, .int .u64 0, .int .u64 0, .int .u64 0, .int .u64 0, .int .u64 0, .int .u64 0, .int .u64 0, .int .u64 0, .int .u64 0, .int .u64 0, .int .u64 0, .int .u64 0, .int .u64 0, .int .u64 0, .int .u64 0, .int .u64 0, .int .u64 0, .int .u64 0, .int .u64 0, .int .u64 0, .int .u64 0] 24)).setRow w3.heap.size (luC 25 R)) w3.heap.size 24 (luC 25 R) := LZ.row
        have HT := (HT.alloc (.cells #[.int .u64 0, .int .u64 0, .int .u64 0, .int .u64 0, .int .u64 0, .int .u64 0, .int .u64 0, .int .u64 0, .int .u64 0, .int .u64 0, .int .u64 0, .int .u64 0, .int .u64 0, .int .u64 0, .int .u64 0, .int .u64 0, .int .u64 0, .int .u64 0, .int .u64 0, .int .u64 0, .int .u64 0, .int .u64 0, .int .u64 0, .int .u64 0, .int .u64 0] 24)).row (B := w3.heap.size) (by have := HT.lt; omega) (luC 25 R)
        have Q := below_row (B := w3.heap.size) (Q.alloc Q.size (.cells #[.int .u64 0, .int .u64 0, .int .u64 0, .int .u64 0, .int .u64 0, .int .u64 0, .int .u64 0, .int .u64 0, .int .u64 0, .int .u64 0, .int .u64 0, .int .u64 0, .int .u64 0, .int .u64 0, .int .u64 0, .int .u64 0, .int .u64 0, .int .u64 0, .int .u64 0, .int .u64 0, .int .u64 0, .int .u64 0, .int .u64 0, .int .u64 0, .int .u64 0] 24)) Q.size (luC 25 R)
        have HIR := Lib.hid (infoL R)
        have HOR := Lib.hid (one_luC 25 R)
        clear LZ
        go_wp2_with (refine wpList_storeB rfl _ _ _ rfl w3.heap.size (luC 25 R) rfl rfl _ _ HLZ.out HIR.out (by rw [luC_size]; rfl) HOR.out ?_)
        obtain ⟨W1, hW1⟩ : ∃ W1, (w3.alloc (.cells #[.int .u64 0, .int .u64 0, .int .u64 0, .int .u64 0, .int .u64 0, .int .u64 0, .int .u64 0, .int .u64 0, .int .u64 0, .int .u64 0, .int .u64 0, .int .u64 0, .int .u64 0, .int .u64 0, .int .u64 0, .int .u64 0, .int .u64 0, .int .u64 0, .int .u64 0, .int .u64 0, .int .u64 0, .int .u64 0, .int .u64 0, .int .u64 0, .int .u64 0] 24)).setRow w3.heap.size (luC 25 R) = W1 := ⟨_, rfl⟩
        rw [hW1] at LR HT Q ⊢
        clear hW1 HLZ HIR HOR
        generalize w3.heap.size = B0 at *
        refine (H3.out _ HT).mono ?_
        rintro e w4 ⟨rfl, q⟩
        have LR := LR.later q
        have Q := Q.trans (q.mono Q.size)
        clear q H3 HT
        go_wp2
        go_loopw [11] (fun i wr => ∃ k : Nat, k ≤ 32 ∧ i = .int .i64 (k : Int) ∧ Has wr B0 24 (luC 25 R) ∧ Below w.heap.size w wr) (fun i _ => 32 - (intOf i).toNat)
        case atStart => exact ⟨0, by omega, rfl, LR, Q⟩
        case round =>
          clear LR Q
          obtain ⟨k, hk, rfl, LR, Q⟩ := hrel
          by_cases hlt : k < 32
          · have hkI : (k : Int) < 32 := by omega
            have e1 : (k : Int).tdiv 8 = ((k / 8 : Nat) : Int) := by rw [Int.tdiv_eq_ediv_of_nonneg (by omega)]; omega
            have e2 : (k : Int).tmod 8 = ((k % 8 : Nat) : Int) := by rw [Int.tmod_eq_emod_of_nonneg (by omega)]; omega
            have e3 : 8 * ((k % 8 : Nat) : Int) = ((8 * (k % 8) : Nat) : Int) := by omega
            have hw := sq_wrap R k
            have hh8 := HH.out k hlt
            have hhN : k < h.size := by omega
            have h8 : k / 8 < 25 := by omega
            have kA : ∀ x : Ext wr, x.w.cell? ⟨B0, k / 8, none⟩ = some (.int .u64 ((R (k / 8) : Nat) : Int)) := fun x => (LR.later x.below).cell _ _ (luC_get 25 R (k / 8) h8)
            have hs64 : 8 * (k % 8) < 64 := by omega
            have HLT := Lib.hid hlt
            have HL := Lib.hid LR
            have HQ := Lib.hid Q
            clear hlt hk LR Q
            generalize sqB R k = r at *
            generalize R (k / 8) = c at *
            generalize 8 * (k % 8) = s8 at *
            generalize k % 8 = k8 at *
            generalize k / 8 = i8 at *
            have hsI8 : (s8 : Int) < 64 := by omega
            have h8I : (i8 : Int) < 25 := by omega
            clear h8 hs64
            go_wp2_with fail
            try simp only [List.append]
            refine wp_region_quick (C := Grows wr) (by kernel_rfl) (by kernel_rfl) (by kernel_rfl) (grows_refl wr) ?_
            repeat (go_big_quiet_step (fail))
            refine wpQuiet_nil ?_
            rintro _ ⟨x, rfl⟩
            have N1 := Lib.hid (HL.out.later x.below)
            have N2 := Lib.hid (HQ.out.trans (x.below.mono HQ.out.size))
            clear kA
            go_wp2
            go_roundw
            case rel => exact ⟨k + 1, by have := HLT.out; omega, by simp, N1.out, N2.out⟩
            case measure => simp [intOf]; omega
          · obtain rfl : k = 32 := by omega
            have HQ := Lib.hid Q
            clear LR Q hk hlt
            go_wp2
            go_ret
            exact ⟨rfl, HQ.out⟩
  · rcases Int.lt_or_le 135 (s.size : Int) with hc2 | hc2
    · have hcut := HX2.out hc
      clear HX1 HX2 hc
      go_wp2_with fail
      refine (H1.out _).mono ?_
      rintro e w2 ⟨rfl, q⟩
      have HT := HT.later q
      have Q := Q.trans (q.mono Q.size)
      clear q H1
      have LA := Has.new w2 24 #[.int .u64 0, .int .u64 0, .int .u64 0, .int .u64 0, .int .u64 0, .int .u64 0, .int .u64 0, .int .u64 0, .int .u64 0, .int .u64 0, .int .u64 0, .int .u64 0, .int .u64 0, .int .u64 0, .int .u64 0, .int .u64 0, .int .u64 0, .int .u64 0, .int .u64 0, .int .u64 0, .int .u64 0, .int .u64 0, .int .u64 0, .int .u64 0, .int .u64 0]
      have hw2 := Q.size
      have HT := HT.alloc (.cells #[.int .u64 0, .int .u64 0, .int .u64 0, .int .u64 0, .int .u64 0, .int .u64 0, .int .u64 0, .int .u64 0, .int .u64 0, .int .u64 0, .int .u64 0, .int .u64 0, .int .u64 0, .int .u64 0, .int .u64 0, .int .u64 0, .int .u64 0, .int .u64 0, .int .u64 0, .int .u64 0, .int .u64 0, .int .u64 0, .int .u64 0, .int .u64 0, .int .u64 0] 24)
      have Q := Q.alloc Q.size (.cells #[.int .u64 0, .int .u64 0, .int .u64 0, .int .u64 0, .int .u64 0, .int .u64 0, .int .u64 0, .int .u64 0, .int .u64 0, .int .u64 0, .int .u64 0, .int .u64 0, .int .u64 0, .int .u64 0, .int .u64 0, .int .u64 0, .int .u64 0, .int .u64 0, .int .u64 0, .int .u64 0, .int .u64 0, .int .u64 0, .int .u64 0, .int .u64 0, .int .u64 0] 24)
      rw [show (#[.int .u64 0, .int .u64 0, .int .u64 0, .int .u64 0, .int .u64 0, .int .u64 0, .int .u64 0, .int .u64 0, .int .u64 0, .int .u64 0, .int .u64 0, .int .u64 0, .int .u64 0, .int .u64 0, .int .u64 0, .int .u64 0, .int .u64 0, .int .u64 0, .int .u64 0, .int .u64 0, .int .u64 0, .int .u64 0, .int .u64 0, .int .u64 0, .int .u64 0] : Array Value) = luC 25 (absN (fun _ => 0) D 0) from rfl] at LA
      go_wp2
      rw [show (#[.int .u64 0, .int .u64 0, .int .u64 0, .int .u64 0, .int .u64 0, .int .u64 0, .int .u64 0, .int .u64 0, .int .u64 0, .int .u64 0, .int .u64 0, .int .u64 0, .int .u64 0, .int .u64 0, .int .u64 0, .int .u64 0, .int .u64 0, .int .u64 0, .int .u64 0, .int .u64 0, .int .u64 0, .int .u64 0, .int .u64 0, .int .u64 0, .int .u64 0] : Array Value) = luC 25 (absN (fun _ => 0) D 0) from rfl]
      rw [show (#[.int .u64 0, .int .u64 0, .int .u64 0, .int .u64 0, .int .u64 0, .int .u64 0, .int .u64 0, .int .u64 0, .int .u64 0, .int .u64 0, .int .u64 0, .int .u64 0, .int .u64 0, .int .u64 0, .int .u64 0, .int .u64 0, .int .u64 0, .int .u64 0, .int .u64 0, .int .u64 0, .int .u64 0, .int .u64 0, .int .u64 0, .int .u64 0, .int .u64 0] : Array Value) = luC 25 (absN (fun _ => 0) D 0) from rfl] at HT Q
      have hlA : w2.heap.size < (w2.alloc (.cells (luC 25 (absN (fun _ => 0) D 0)) 24)).heap.size := by simp
      obtain ⟨W0, hW0⟩ : ∃ W0, w2.alloc (.cells (luC 25 (absN (fun _ => 0) D 0)) 24) = W0 := ⟨_, rfl⟩
      rw [hW0] at LA HT Q hlA ⊢
      clear hW0
      generalize w2.heap.size = A0 at *
      have hA0 : 0 < A0 := by omega
      go_loopw [7] (fun i wr => ∃ k : Nat, k ≤ 136 ∧ i = .int .i64 (k : Int) ∧ Has wr A0 24 (luC 25 (absN (fun _ => 0) D k)) ∧ Tab wr ∧ Below w.heap.size w wr) (fun i _ => 136 - (intOf i).toNat)
      case atStart => exact ⟨0, by omega, rfl, LA, HT, Q⟩
      case round =>
        clear LA HT Q
        obtain ⟨k, hk, rfl, LA, HT, Q⟩ := hrel
        by_cases hlt : k < 136
        · have hkI : (k : Int) < 136 := by omega
          have e1 : (k : Int).tdiv 8 = ((k / 8 : Nat) : Int) := by rw [Int.tdiv_eq_ediv_of_nonneg (by omega)]; omega
          have e2 : (k : Int).tmod 8 = ((k % 8 : Nat) : Int) := by rw [Int.tmod_eq_emod_of_nonneg (by omega)]; omega
          have e3 : 8 * ((k % 8 : Nat) : Int) = ((8 * (k % 8) : Nat) : Int) := by omega
          have hw8 := sh_wrap (D k) k (HD.out k)
          have hx8 := or_step D HD.out k
          have hS' : ∀ i, i < 25 → absN (fun _ => 0) D (k + 1) i = if i = k / 8 then absN (fun _ => 0) D k (k / 8) ^^^ (D k * 2 ^ (8 * (k % 8))) else absN (fun _ => 0) D k i := fun i _ => abs_at _ D k i
          have h8 : k / 8 < 25 := by omega
          have hs64 : 8 * (k % 8) < 64 := by omega
          have hd8 := HD.out k
          have hpk := HPD.out k hlt
          have hpN : k < p.size := by omega
          have kA : ∀ x : Ext wr, x.w.cell? ⟨A0, k / 8, none⟩ = some (.int .u64 ((absN (fun _ => 0) D k (k / 8) : Nat) : Int)) := fun x => (LA.later x.below).cell _ _ (luC_get 25 _ _ h8)
          have kz : ∀ x : Ext wr, x.w.frozen? ⟨A0, k / 8, none⟩ = false := fun x => (LA.later x.below).frozen _
          have HLT := Lib.hid hlt
          have HA := Lib.hid LA
          have HTT := Lib.hid HT
          have HQ := Lib.hid Q
          clear hlt hk LA HT Q
          generalize absN (fun _ => 0) D k (k / 8) ^^^ (D k * 2 ^ (8 * (k % 8))) = r at *
          generalize absN (fun _ => 0) D k (k / 8) = c at *
          generalize D k * 2 ^ (8 * (k % 8)) = v at *
          generalize D k = d at *
          generalize 8 * (k % 8) = s8 at *
          generalize k % 8 = k8 at *
          generalize k / 8 = i8 at *
          have hd8I : (d : Int) < 256 := by omega
          have hsI8 : (s8 : Int) < 64 := by omega
          have h8I : (i8 : Int) < 25 := by omega
          have HS' := Lib.hid hS'
          clear hS' h8 hs64 hd8
          go_wp2_with fail
          refine wp_region_mix (C := Grows wr) [some true, some true, some true, some true, some true, some true, some true, some true, some true, some true, some true, some true, some true, some true, some true, some true, none] hmx (by kernel_rfl) (by kernel_rfl) (grows_refl wr) ?_
          simp only [headOf, tailOf]
          repeat (go_big_quiet_step (fail))
          refine wpQuiet_nil ?_
          rintro _ ⟨x, rfl⟩
          have N1 := (HA.out.later x.below).set i8 (.int .u64 ((r : Nat) : Int))
          rw [luC_set 25 _ (absN (fun _ => 0) D (k + 1)) i8 r HS'.out] at N1
          have G1 := Lib.hid N1
          have G2 := Lib.hid ((HTT.out.later x.below).other (p := ⟨A0, i8, none⟩) hA0 (.int .u64 ((r : Nat) : Int)))
          have G3 := Lib.hid ((HQ.out.trans (x.below.mono HQ.out.size)).setCell (p := ⟨A0, i8, none⟩) hw2 (.int .u64 ((r : Nat) : Int)))
          have kA' := kA x
          have kz' := kz x
          clear kA kz N1
          go_wp2
          rw [calmPost_normal]
          go_wp2
          go_roundw
          case rel => exact ⟨k + 1, by have := HLT.out; omega, by simp, G1.out, G2.out, G3.out⟩
          case measure => simp [intOf]; omega
        · obtain rfl : k = 136 := by omega
          have HLA := Lib.hid (load25 LA)
          clear hk hlt
          generalize absN (fun _ => 0) D 136 = AB at *
          go_wp2_with (refine wpList_loadB rfl _ _ rfl A0 rfl _ HLA.out ?_)
          clear HLA
          refine (H2.out _ HT).mono ?_
          rintro e w3 ⟨rfl, q⟩
          have HT := HT.later q
          have Q := Q.trans (q.mono Q.size)
          clear q H2 LA
          have LZ := Has.new w3 24 #[.int .u64 0, .int .u64 0, .int .u64 0, .int .u64 0, .int .u64 0, .int .u64 0, .int .u64 0, .int .u64 0, .int .u64 0, .int .u64 0, .int .u64 0, .int .u64 0, .int .u64 0, .int .u64 0, .int .u64 0, .int .u64 0, .int .u64 0, .int .u64 0, .int .u64 0, .int .u64 0, .int .u64 0, .int .u64 0, .int .u64 0, .int .u64 0, .int .u64 0]
          have HLZ := Lib.hid LZ
          have LR : Has ((w3.alloc (.cells #[.int .u64 0, .int .u64 0, .int .u64 0, .int .u64 0, .int .u64 0, .int .u64 0, .int .u64 0, .int .u64 0, .int .u64 0, .int .u64 0, .int .u64 0, .int .u64 0, .int .u64 0, .int .u64 0, .int .u64 0, .int .u64 0, .int .u64 0, .int .u64 0, .int .u64 0, .int .u64 0, .int .u64 0, .int .u64 0, .int .u64 0, .int .u64 0, .int .u64 0] 24)).setRow w3.heap.size (luC 25 R)) w3.heap.size 24 (luC 25 R) := LZ.row
          have HT := (HT.alloc (.cells #[.int .u64 0, .int .u64 0, .int .u64 0, .int .u64 0, .int .u64 0, .int .u64 0, .int .u64 0, .int .u64 0, .int .u64 0, .int .u64 0, .int .u64 0, .int .u64 0, .int .u64 0, .int .u64 0, .int .u64 0, .int .u64 0, .int .u64 0, .int .u64 0, .int .u64 0, .int .u64 0, .int .u64 0, .int .u64 0, .int .u64 0, .int .u64 0, .int .u64 0] 24)).row (B := w3.heap.size) (by have := HT.lt; omega) (luC 25 R)
          have Q := below_row (B := w3.heap.size) (Q.alloc Q.size (.cells #[.int .u64 0, .int .u64 0, .int .u64 0, .int .u64 0, .int .u64 0, .int .u64 0, .int .u64 0, .int .u64 0, .int .u64 0, .int .u64 0, .int .u64 0, .int .u64 0, .int .u64 0, .int .u64 0, .int .u64 0, .int .u64 0, .int .u64 0, .int .u64 0, .int .u64 0, .int .u64 0, .int .u64 0, .int .u64 0, .int .u64 0, .int .u64 0, .int .u64 0] 24)) Q.size (luC 25 R)
          have HIR := Lib.hid (infoL R)
          have HOR := Lib.hid (one_luC 25 R)
          clear LZ
          go_wp2_with (refine wpList_storeB rfl _ _ _ rfl w3.heap.size (luC 25 R) rfl rfl _ _ HLZ.out HIR.out (by rw [luC_size]; rfl) HOR.out ?_)
          obtain ⟨W1, hW1⟩ : ∃ W1, (w3.alloc (.cells #[.int .u64 0, .int .u64 0, .int .u64 0, .int .u64 0, .int .u64 0, .int .u64 0, .int .u64 0, .int .u64 0, .int .u64 0, .int .u64 0, .int .u64 0, .int .u64 0, .int .u64 0, .int .u64 0, .int .u64 0, .int .u64 0, .int .u64 0, .int .u64 0, .int .u64 0, .int .u64 0, .int .u64 0, .int .u64 0, .int .u64 0, .int .u64 0, .int .u64 0] 24)).setRow w3.heap.size (luC 25 R) = W1 := ⟨_, rfl⟩
          rw [hW1] at LR HT Q ⊢
          clear hW1 HLZ HIR HOR
          generalize w3.heap.size = B0 at *
          refine (H3.out _ HT).mono ?_
          rintro e w4 ⟨rfl, q⟩
          have LR := LR.later q
          have Q := Q.trans (q.mono Q.size)
          clear q H3 HT
          go_wp2
          go_loopw [11] (fun i wr => ∃ k : Nat, k ≤ 32 ∧ i = .int .i64 (k : Int) ∧ Has wr B0 24 (luC 25 R) ∧ Below w.heap.size w wr) (fun i _ => 32 - (intOf i).toNat)
          case atStart => exact ⟨0, by omega, rfl, LR, Q⟩
          case round =>
            clear LR Q
            obtain ⟨k, hk, rfl, LR, Q⟩ := hrel
            by_cases hlt : k < 32
            · have hkI : (k : Int) < 32 := by omega
              have e1 : (k : Int).tdiv 8 = ((k / 8 : Nat) : Int) := by rw [Int.tdiv_eq_ediv_of_nonneg (by omega)]; omega
              have e2 : (k : Int).tmod 8 = ((k % 8 : Nat) : Int) := by rw [Int.tmod_eq_emod_of_nonneg (by omega)]; omega
              have e3 : 8 * ((k % 8 : Nat) : Int) = ((8 * (k % 8) : Nat) : Int) := by omega
              have hw := sq_wrap R k
              have hh8 := HH.out k hlt
              have hhN : k < h.size := by omega
              have h8 : k / 8 < 25 := by omega
              have kA : ∀ x : Ext wr, x.w.cell? ⟨B0, k / 8, none⟩ = some (.int .u64 ((R (k / 8) : Nat) : Int)) := fun x => (LR.later x.below).cell _ _ (luC_get 25 R (k / 8) h8)
              have hs64 : 8 * (k % 8) < 64 := by omega
              have HLT := Lib.hid hlt
              have HL := Lib.hid LR
              have HQ := Lib.hid Q
              clear hlt hk LR Q
              generalize sqB R k = r at *
              generalize R (k / 8) = c at *
              generalize 8 * (k % 8) = s8 at *
              generalize k % 8 = k8 at *
              generalize k / 8 = i8 at *
              have hsI8 : (s8 : Int) < 64 := by omega
              have h8I : (i8 : Int) < 25 := by omega
              clear h8 hs64
              go_wp2_with fail
              try simp only [List.append]
              refine wp_region_quick (C := Grows wr) (by kernel_rfl) (by kernel_rfl) (by kernel_rfl) (grows_refl wr) ?_
              repeat (go_big_quiet_step (fail))
              refine wpQuiet_nil ?_
              rintro _ ⟨x, rfl⟩
              have N1 := Lib.hid (HL.out.later x.below)
              have N2 := Lib.hid (HQ.out.trans (x.below.mono HQ.out.size))
              clear kA
              go_wp2
              go_roundw
              case rel => exact ⟨k + 1, by have := HLT.out; omega, by simp, N1.out, N2.out⟩
              case measure => simp [intOf]; omega
            · obtain rfl : k = 32 := by omega
              have HQ := Lib.hid Q
              clear LR Q hk hlt
              go_wp2
              go_ret
              exact ⟨rfl, HQ.out⟩
    · have hcut := HX2.out hc
      obtain rfl : x = s := HX1.out hc2
      have hc3 : (x.size : Int) = 135 := by omega
      clear HX1 HX2 hc hc2 hsI
      go_wp2_with fail
      refine (H1.out _).mono ?_
      rintro e w2 ⟨rfl, q⟩
      have HT := HT.later q
      have Q := Q.trans (q.mono Q.size)
      clear q H1
      have LA := Has.new w2 24 #[.int .u64 0, .int .u64 0, .int .u64 0, .int .u64 0, .int .u64 0, .int .u64 0, .int .u64 0, .int .u64 0, .int .u64 0, .int .u64 0, .int .u64 0, .int .u64 0, .int .u64 0, .int .u64 0, .int .u64 0, .int .u64 0, .int .u64 0, .int .u64 0, .int .u64 0, .int .u64 0, .int .u64 0, .int .u64 0, .int .u64 0, .int .u64 0, .int .u64 0]
      have hw2 := Q.size
      have HT := HT.alloc (.cells #[.int .u64 0, .int .u64 0, .int .u64 0, .int .u64 0, .int .u64 0, .int .u64 0, .int .u64 0, .int .u64 0, .int .u64 0, .int .u64 0, .int .u64 0, .int .u64 0, .int .u64 0, .int .u64 0, .int .u64 0, .int .u64 0, .int .u64 0, .int .u64 0, .int .u64 0, .int .u64 0, .int .u64 0, .int .u64 0, .int .u64 0, .int .u64 0, .int .u64 0] 24)
      have Q := Q.alloc Q.size (.cells #[.int .u64 0, .int .u64 0, .int .u64 0, .int .u64 0, .int .u64 0, .int .u64 0, .int .u64 0, .int .u64 0, .int .u64 0, .int .u64 0, .int .u64 0, .int .u64 0, .int .u64 0, .int .u64 0, .int .u64 0, .int .u64 0, .int .u64 0, .int .u64 0, .int .u64 0, .int .u64 0, .int .u64 0, .int .u64 0, .int .u64 0, .int .u64 0, .int .u64 0] 24)
      rw [show (#[.int .u64 0, .int .u64 0, .int .u64 0, .int .u64 0, .int .u64 0, .int .u64 0, .int .u64 0, .int .u64 0, .int .u64 0, .int .u64 0, .int .u64 0, .int .u64 0, .int .u64 0, .int .u64 0, .int .u64 0, .int .u64 0, .int .u64 0, .int .u64 0, .int .u64 0, .int .u64 0, .int .u64 0, .int .u64 0, .int .u64 0, .int .u64 0, .int .u64 0] : Array Value) = luC 25 (absN (fun _ => 0) D 0) from rfl] at LA
      go_wp2
      rw [show (#[.int .u64 0, .int .u64 0, .int .u64 0, .int .u64 0, .int .u64 0, .int .u64 0, .int .u64 0, .int .u64 0, .int .u64 0, .int .u64 0, .int .u64 0, .int .u64 0, .int .u64 0, .int .u64 0, .int .u64 0, .int .u64 0, .int .u64 0, .int .u64 0, .int .u64 0, .int .u64 0, .int .u64 0, .int .u64 0, .int .u64 0, .int .u64 0, .int .u64 0] : Array Value) = luC 25 (absN (fun _ => 0) D 0) from rfl]
      rw [show (#[.int .u64 0, .int .u64 0, .int .u64 0, .int .u64 0, .int .u64 0, .int .u64 0, .int .u64 0, .int .u64 0, .int .u64 0, .int .u64 0, .int .u64 0, .int .u64 0, .int .u64 0, .int .u64 0, .int .u64 0, .int .u64 0, .int .u64 0, .int .u64 0, .int .u64 0, .int .u64 0, .int .u64 0, .int .u64 0, .int .u64 0, .int .u64 0, .int .u64 0] : Array Value) = luC 25 (absN (fun _ => 0) D 0) from rfl] at HT Q
      have hlA : w2.heap.size < (w2.alloc (.cells (luC 25 (absN (fun _ => 0) D 0)) 24)).heap.size := by simp
      obtain ⟨W0, hW0⟩ : ∃ W0, w2.alloc (.cells (luC 25 (absN (fun _ => 0) D 0)) 24) = W0 := ⟨_, rfl⟩
      rw [hW0] at LA HT Q hlA ⊢
      clear hW0
      generalize w2.heap.size = A0 at *
      have hA0 : 0 < A0 := by omega
      go_loopw [7] (fun i wr => ∃ k : Nat, k ≤ 136 ∧ i = .int .i64 (k : Int) ∧ Has wr A0 24 (luC 25 (absN (fun _ => 0) D k)) ∧ Tab wr ∧ Below w.heap.size w wr) (fun i _ => 136 - (intOf i).toNat)
      case atStart => exact ⟨0, by omega, rfl, LA, HT, Q⟩
      case round =>
        clear LA HT Q
        obtain ⟨k, hk, rfl, LA, HT, Q⟩ := hrel
        by_cases hlt : k < 136
        · have hkI : (k : Int) < 136 := by omega
          have e1 : (k : Int).tdiv 8 = ((k / 8 : Nat) : Int) := by rw [Int.tdiv_eq_ediv_of_nonneg (by omega)]; omega
          have e2 : (k : Int).tmod 8 = ((k % 8 : Nat) : Int) := by rw [Int.tmod_eq_emod_of_nonneg (by omega)]; omega
          have e3 : 8 * ((k % 8 : Nat) : Int) = ((8 * (k % 8) : Nat) : Int) := by omega
          have hw8 := sh_wrap (D k) k (HD.out k)
          have hx8 := or_step D HD.out k
          have hS' : ∀ i, i < 25 → absN (fun _ => 0) D (k + 1) i = if i = k / 8 then absN (fun _ => 0) D k (k / 8) ^^^ (D k * 2 ^ (8 * (k % 8))) else absN (fun _ => 0) D k i := fun i _ => abs_at _ D k i
          have h8 : k / 8 < 25 := by omega
          have hs64 : 8 * (k % 8) < 64 := by omega
          have hd8 := HD.out k
          have hpk := HPD.out k hlt
          have hpN : k < p.size := by omega
          have kA : ∀ x : Ext wr, x.w.cell? ⟨A0, k / 8, none⟩ = some (.int .u64 ((absN (fun _ => 0) D k (k / 8) : Nat) : Int)) := fun x => (LA.later x.below).cell _ _ (luC_get 25 _ _ h8)
          have kz : ∀ x : Ext wr, x.w.frozen? ⟨A0, k / 8, none⟩ = false := fun x => (LA.later x.below).frozen _
          have HLT := Lib.hid hlt
          have HA := Lib.hid LA
          have HTT := Lib.hid HT
          have HQ := Lib.hid Q
          clear hlt hk LA HT Q
          generalize absN (fun _ => 0) D k (k / 8) ^^^ (D k * 2 ^ (8 * (k % 8))) = r at *
          generalize absN (fun _ => 0) D k (k / 8) = c at *
          generalize D k * 2 ^ (8 * (k % 8)) = v at *
          generalize D k = d at *
          generalize 8 * (k % 8) = s8 at *
          generalize k % 8 = k8 at *
          generalize k / 8 = i8 at *
          have hd8I : (d : Int) < 256 := by omega
          have hsI8 : (s8 : Int) < 64 := by omega
          have h8I : (i8 : Int) < 25 := by omega
          have HS' := Lib.hid hS'
          clear hS' h8 hs64 hd8
          go_wp2_with fail
          refine wp_region_mix (C := Grows wr) [some true, some true, some true, some true, some true, some true, some true, some true, some true, some true, some true, some true, some true, some true, some true, some true, none] hmx (by kernel_rfl) (by kernel_rfl) (grows_refl wr) ?_
          simp only [headOf, tailOf]
          repeat (go_big_quiet_step (fail))
          refine wpQuiet_nil ?_
          rintro _ ⟨x, rfl⟩
          have N1 := (HA.out.later x.below).set i8 (.int .u64 ((r : Nat) : Int))
          rw [luC_set 25 _ (absN (fun _ => 0) D (k + 1)) i8 r HS'.out] at N1
          have G1 := Lib.hid N1
          have G2 := Lib.hid ((HTT.out.later x.below).other (p := ⟨A0, i8, none⟩) hA0 (.int .u64 ((r : Nat) : Int)))
          have G3 := Lib.hid ((HQ.out.trans (x.below.mono HQ.out.size)).setCell (p := ⟨A0, i8, none⟩) hw2 (.int .u64 ((r : Nat) : Int)))
          have kA' := kA x
          have kz' := kz x
          clear kA kz N1
          go_wp2
          rw [calmPost_normal]
          go_wp2
          go_roundw
          case rel => exact ⟨k + 1, by have := HLT.out; omega, by simp, G1.out, G2.out, G3.out⟩
          case measure => simp [intOf]; omega
        · obtain rfl : k = 136 := by omega
          have HLA := Lib.hid (load25 LA)
          clear hk hlt
          generalize absN (fun _ => 0) D 136 = AB at *
          go_wp2_with (refine wpList_loadB rfl _ _ rfl A0 rfl _ HLA.out ?_)
          clear HLA
          refine (H2.out _ HT).mono ?_
          rintro e w3 ⟨rfl, q⟩
          have HT := HT.later q
          have Q := Q.trans (q.mono Q.size)
          clear q H2 LA
          have LZ := Has.new w3 24 #[.int .u64 0, .int .u64 0, .int .u64 0, .int .u64 0, .int .u64 0, .int .u64 0, .int .u64 0, .int .u64 0, .int .u64 0, .int .u64 0, .int .u64 0, .int .u64 0, .int .u64 0, .int .u64 0, .int .u64 0, .int .u64 0, .int .u64 0, .int .u64 0, .int .u64 0, .int .u64 0, .int .u64 0, .int .u64 0, .int .u64 0, .int .u64 0, .int .u64 0]
          have HLZ := Lib.hid LZ
          have LR : Has ((w3.alloc (.cells #[.int .u64 0, .int .u64 0, .int .u64 0, .int .u64 0, .int .u64 0, .int .u64 0, .int .u64 0, .int .u64 0, .int .u64 0, .int .u64 0, .int .u64 0, .int .u64 0, .int .u64 0, .int .u64 0, .int .u64 0, .int .u64 0, .int .u64 0, .int .u64 0, .int .u64 0, .int .u64 0, .int .u64 0, .int .u64 0, .int .u64 0, .int .u64 0, .int .u64 0] 24)).setRow w3.heap.size (luC 25 R)) w3.heap.size 24 (luC 25 R) := LZ.row
          have HT := (HT.alloc (.cells #[.int .u64 0, .int .u64 0, .int .u64 0, .int .u64 0, .int .u64 0, .int .u64 0, .int .u64 0, .int .u64 0, .int .u64 0, .int .u64 0, .int .u64 0, .int .u64 0, .int .u64 0, .int .u64 0, .int .u64 0, .int .u64 0, .int .u64 0, .int .u64 0, .int .u64 0, .int .u64 0, .int .u64 0, .int .u64 0, .int .u64 0, .int .u64 0, .int .u64 0] 24)).row (B := w3.heap.size) (by have := HT.lt; omega) (luC 25 R)
          have Q := below_row (B := w3.heap.size) (Q.alloc Q.size (.cells #[.int .u64 0, .int .u64 0, .int .u64 0, .int .u64 0, .int .u64 0, .int .u64 0, .int .u64 0, .int .u64 0, .int .u64 0, .int .u64 0, .int .u64 0, .int .u64 0, .int .u64 0, .int .u64 0, .int .u64 0, .int .u64 0, .int .u64 0, .int .u64 0, .int .u64 0, .int .u64 0, .int .u64 0, .int .u64 0, .int .u64 0, .int .u64 0, .int .u64 0] 24)) Q.size (luC 25 R)
          have HIR := Lib.hid (infoL R)
          have HOR := Lib.hid (one_luC 25 R)
          clear LZ
          go_wp2_with (refine wpList_storeB rfl _ _ _ rfl w3.heap.size (luC 25 R) rfl rfl _ _ HLZ.out HIR.out (by rw [luC_size]; rfl) HOR.out ?_)
          obtain ⟨W1, hW1⟩ : ∃ W1, (w3.alloc (.cells #[.int .u64 0, .int .u64 0, .int .u64 0, .int .u64 0, .int .u64 0, .int .u64 0, .int .u64 0, .int .u64 0, .int .u64 0, .int .u64 0, .int .u64 0, .int .u64 0, .int .u64 0, .int .u64 0, .int .u64 0, .int .u64 0, .int .u64 0, .int .u64 0, .int .u64 0, .int .u64 0, .int .u64 0, .int .u64 0, .int .u64 0, .int .u64 0, .int .u64 0] 24)).setRow w3.heap.size (luC 25 R) = W1 := ⟨_, rfl⟩
          rw [hW1] at LR HT Q ⊢
          clear hW1 HLZ HIR HOR
          generalize w3.heap.size = B0 at *
          refine (H3.out _ HT).mono ?_
          rintro e w4 ⟨rfl, q⟩
          have LR := LR.later q
          have Q := Q.trans (q.mono Q.size)
          clear q H3 HT
          go_wp2
          go_loopw [11] (fun i wr => ∃ k : Nat, k ≤ 32 ∧ i = .int .i64 (k : Int) ∧ Has wr B0 24 (luC 25 R) ∧ Below w.heap.size w wr) (fun i _ => 32 - (intOf i).toNat)
          case atStart => exact ⟨0, by omega, rfl, LR, Q⟩
          case round =>
            clear LR Q
            obtain ⟨k, hk, rfl, LR, Q⟩ := hrel
            by_cases hlt : k < 32
            · have hkI : (k : Int) < 32 := by omega
              have e1 : (k : Int).tdiv 8 = ((k / 8 : Nat) : Int) := by rw [Int.tdiv_eq_ediv_of_nonneg (by omega)]; omega
              have e2 : (k : Int).tmod 8 = ((k % 8 : Nat) : Int) := by rw [Int.tmod_eq_emod_of_nonneg (by omega)]; omega
              have e3 : 8 * ((k % 8 : Nat) : Int) = ((8 * (k % 8) : Nat) : Int) := by omega
              have hw := sq_wrap R k
              have hh8 := HH.out k hlt
              have hhN : k < h.size := by omega
              have h8 : k / 8 < 25 := by omega
              have kA : ∀ x : Ext wr, x.w.cell? ⟨B0, k / 8, none⟩ = some (.int .u64 ((R (k / 8) : Nat) : Int)) := fun x => (LR.later x.below).cell _ _ (luC_get 25 R (k / 8) h8)
              have hs64 : 8 * (k % 8) < 64 := by omega
              have HLT := Lib.hid hlt
              have HL := Lib.hid LR
              have HQ := Lib.hid Q
              clear hlt hk LR Q
              generalize sqB R k = r at *
              generalize R (k / 8) = c at *
              generalize 8 * (k % 8) = s8 at *
              generalize k % 8 = k8 at *
              generalize k / 8 = i8 at *
              have hsI8 : (s8 : Int) < 64 := by omega
              have h8I : (i8 : Int) < 25 := by omega
              clear h8 hs64
              go_wp2_with fail
              try simp only [List.append]
              refine wp_region_quick (C := Grows wr) (by kernel_rfl) (by kernel_rfl) (by kernel_rfl) (grows_refl wr) ?_
              repeat (go_big_quiet_step (fail))
              refine wpQuiet_nil ?_
              rintro _ ⟨x, rfl⟩
              have N1 := Lib.hid (HL.out.later x.below)
              have N2 := Lib.hid (HQ.out.trans (x.below.mono HQ.out.size))
              clear kA
              go_wp2
              go_roundw
              case rel => exact ⟨k + 1, by have := HLT.out; omega, by simp, N1.out, N2.out⟩
              case measure => simp [intOf]; omega
            · obtain rfl : k = 32 := by omega
              have HQ := Lib.hid Q
              clear LR Q hk hlt
              go_wp2
              go_ret
              exact ⟨rfl, HQ.out⟩

theorem kOne_ret (s : ByteArray) (hs : s.size ≤ 140737488355328) : RetT Tryd.prog 8 #[.string s] (.bool true) := by
  obtain ⟨x, hx⟩ : ∃ x, (if s.size ≤ 135 then s else s.extract 0 135) = x := ⟨_, rfl⟩
  have hxs : x.size ≤ 135 := by
    rw [← hx]
    split
    · assumption
    · rw [ByteArray.size_extract]; omega
  have hb : x.size / 136 + 1 = 1 := by omega
  have hps : (padS x).size = 136 := by rw [padS_size, hb]
  have hR : permN (absN (fun _ => 0) (byN (padS x)) 136) = blkN (padS x) 1 := by
    show _ = permN (absN (fun _ => 0) (fun j => byN (padS x) (136 * 0 + j)) 136)
    simp only [Nat.mul_zero, Nat.zero_add]
  refine one_walk s x (padS x) (sumS x) (byN (padS x)) (blkN (padS x) 1) hs (fun h => by rw [← hx, if_pos (by omega)]) (fun h => ?_) hps (byN_lt _) (fun j hj g => by rw [byN_at (padS x) j g]; rfl) (sumS_size x) (fun j hj g => ?_)
    (pad_ret x (by omega)) ?_ (sum_ret x (by omega))
  · rw [← hx]
    split
    · apply ByteArray.ext
      rw [ByteArray.data_extract]
      apply Array.toList_inj.1
      have hsz : s.data.size = 135 := by have : s.size = 135 := by omega
                                         exact this
      simp [hsz]
      exact List.take_of_length_le (by simp [hsz])
    · rfl
  · have e : sumS x = sqS (blkN (padS x) 1) := by unfold sumS; rw [hb]
    have := sq_at (blkN (padS x) 1) j hj (by rw [← e]; exact g)
    simp only [← e] at this
    exact this
  · rw [← hR]
    exact permute_ret _ (absN_lt _ _ (fun _ => by decide) (byN_lt _) 136)
end Go.Proofs.YtcjdcalfndicbaaDoor
