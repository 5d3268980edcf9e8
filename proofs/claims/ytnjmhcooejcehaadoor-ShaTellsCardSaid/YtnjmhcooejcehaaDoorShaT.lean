/- The reference's roots. -/
import Derived.Test.YtnjmhcooejcehaaDoorShaS
namespace Go.Proofs.YtnjmhcooejcehaaDoor
open Go Go.RowKit Go.Shelf
attribute [local go_sem] Oper.semAt_some Grows wide_fn

/-- Of what the root is: n times 2^64, or 2^96. -/
def wantN (n : Nat) (c : Bool) : Nat := if c = true then n * 79228162514264337593543950336 else n * 18446744073709551616
def powN (y : Nat) (c : Bool) : Nat := if c = true then y * y * y else y * y
/-- The root's bits, from the highest on, behind m of them. -/
def rootK (n : Nat) (c : Bool) : Nat → Nat
  | 0 => 0
  | m + 1 => if Nat.ble (powN (rootK n c m + 2 ^ (40 - m)) c) (wantN n c) = true then rootK n c m + 2 ^ (40 - m) else rootK n c m
theorem rootK_lt (n : Nat) (c : Bool) : ∀ m, m ≤ 41 → rootK n c m + 2 ^ (41 - m) ≤ 2 ^ 41
  | 0, _ => by show 0 + 2 ^ 41 ≤ 2 ^ 41; omega
  | m + 1, h => by
    have ih := rootK_lt n c m (by omega)
    have e : 2 ^ (41 - m) = 2 ^ (40 - m) + 2 ^ (40 - m) := by rw [show 41 - m = (40 - m) + 1 by omega, Nat.pow_succ]; omega
    rw [show 41 - (m + 1) = 40 - m by omega, rootK]
    rw [e] at ih
    generalize 2 ^ (40 - m) = p at *
    split <;> omega
def rtN (n : Nat) (c : Bool) : Nat := rootK n c 41 % 4294967296
set_option maxRecDepth 100000 in
theorem roots_h : ∀ i : Fin 8, Nat.beq (rtN (pr i.val) false) (hN i.val) = true := by decide +kernel
set_option maxRecDepth 100000 in
theorem roots_k : ∀ i : Fin 64, Nat.beq (rtN (pr i.val) true) (kN i.val) = true := by decide +kernel
theorem want_limbs (n : Nat) (hn : n < 512) : wv (wantN n false) = W4 0 n 0 0 ∧ wv (wantN n true) = W4 0 ((n * 4294967296 : Nat) : Int) 0 0 := by
  constructor
  · obtain ⟨h0, h1, h2, h3⟩ := lim_num (fun j => if j = 1 then (n : Int) else 0) (wantN n false) (by unfold U64; simp) (by unfold U64; simp; omega) (by unfold U64; simp) (by unfold U64; simp) (by unfold num wantN; simp)
    unfold wv
    rw [h0, h1, h2, h3]
    rfl
  · obtain ⟨h0, h1, h2, h3⟩ := lim_num (fun j => if j = 1 then ((n * 4294967296 : Nat) : Int) else 0) (wantN n true) (by unfold U64; simp) (by unfold U64; simp; omega) (by unfold U64; simp) (by unfold U64; simp) (by unfold num wantN; simp; omega)
    unfold wv
    rw [h0, h1, h2, h3]
    rfl
theorem small_pow (y : Nat) (hy : y < 2 ^ 41) : y * y < 2 ^ 82 ∧ y * y * y < 2 ^ 123 := by
  have h1 : y * y ≤ (2 ^ 41 - 1) * (2 ^ 41 - 1) := Nat.mul_le_mul (by omega) (by omega)
  have h2 : y * y * y ≤ (2 ^ 41 - 1) * (2 ^ 41 - 1) * (2 ^ 41 - 1) := Nat.mul_le_mul h1 (by omega)
  exact ⟨by omega, by omega⟩
/-- One step's calls: the numbers that are compared. -/
theorem step_calls (y : Nat) (hy : y < 2 ^ 41) (W : Nat) (hW : W256 W) : ∃ p0 p1 p2 p3 q0 q1 q2 q3 : Int,
    Ret Tryd.prog 12 #[.int .i64 (y : Int)] (W4 y 0 0 0) ∧ Ret Tryd.prog 37 #[W4 y 0 0 0, W4 y 0 0 0] (W4 p0 p1 p2 p3) ∧ Ret Tryd.prog 37 #[W4 p0 p1 p2 p3, W4 y 0 0 0] (W4 q0 q1 q2 q3) ∧
    Ret Tryd.prog 38 #[W4 p0 p1 p2 p3, wv W] (.int .i64 (wcmp (y * y) W)) ∧ Ret Tryd.prog 38 #[W4 q0 q1 q2 q3, wv W] (.int .i64 (wcmp (y * y * y) W)) := by
  obtain ⟨h1, h2⟩ := small_pow y hy
  have hy2 : W256 y := by unfold W256; omega
  have hp : W256 (y * y) := by unfold W256; omega
  have hq : W256 (y * y * y) := by unfold W256; omega
  have e1 : wmod (y * y) = y * y := Nat.mod_eq_of_lt hp
  have e2 : wmod (y * y * y) = y * y * y := Nat.mod_eq_of_lt hq
  have m1 := refMul_ret y y hy2 hy2
  have m2 := refMul_ret (y * y) y hp hy2
  have c1 := refCmp_ret (y * y) W hp hW
  have c2 := refCmp_ret (y * y * y) W hq hW
  rw [e1] at m1
  rw [e2] at m2
  rw [wv_small y (by omega)] at m1 m2
  exact ⟨_, _, _, _, _, _, _, _, refOf_small y (by omega), m1, m2, c1, c2⟩
theorem wcmp_le (a b : Nat) : (wcmp a b ≤ 0 ↔ a ≤ b) ∧ -1 ≤ wcmp a b ∧ wcmp a b ≤ 1 := by
  unfold wcmp
  split
  · constructor
    · constructor <;> intro <;> omega
    · omega
  · split
    · constructor
      · constructor <;> intro <;> omega
      · omega
    · constructor
      · constructor <;> intro <;> omega
      · omega

set_option maxRecDepth 100000 in
set_option maxHeartbeats 16000000 in
theorem root_ret (n : Nat) (c : Bool) (hn : n < 512) : Ret Tryd.prog 33 #[.int .i64 (n : Int), .bool c] (.int .i64 ((rtN n c : Nat) : Int)) := by
  intro w
  have hmx : Tryd.prog.follows .mixedOrders = true := by kernel_rfl
  have HRL := Lib.hid (rootK_lt n c)
  have HRK : Hid (∀ m, rootK n c (m + 1) = if Nat.ble (powN (rootK n c m + 2 ^ (40 - m)) c) (wantN n c) = true then rootK n c m + 2 ^ (40 - m) else rootK n c m) := Lib.hid (fun m => rfl)
  have HRT : Hid (rtN n c = rootK n c 41 % 4294967296) := Lib.hid rfl
  have hWL := want_limbs n hn
  have hW : W256 (wantN n c) := by unfold W256 wantN; split <;> omega
  have HR0 : Hid (rootK n c 0 = 0) := Lib.hid rfl
  obtain ⟨RK, hRK⟩ : ∃ RK, rootK n c = RK := ⟨_, rfl⟩
  rw [hRK] at HRL HRK HRT HR0
  clear hRK
  have hnI : (n : Int) < 512 := by omega
  have hn0 : (0 : Int) ≤ (n : Int) := by omega
  have w1 : IntKind.u64.wrap (n : Int) = (n : Int) := by rw [IntKind.wrap_u64]; omega
  have w2 : IntKind.u64.wrap ((n : Int) * 4294967296) = ((n * 4294967296 : Nat) : Int) := by rw [IntKind.wrap_u64]; omega
  go_enter Tryd.func33, Tryd.ntmps33
  have HSTEP : Hid (∀ y, y < 2 ^ 41 → _) := Lib.hid (fun y hy => step_calls y hy (wantN n c) hW)
  cases c with
  | false =>
    rw [hWL.1] at HSTEP
    have LW := Has.new w 24 #[.int .u64 0, .int .u64 (n : Int), .int .u64 0, .int .u64 0]
    have Q := (Below.refl w.heap.size w).alloc (Nat.le_refl _) (.cells #[.int .u64 0, .int .u64 (n : Int), .int .u64 0, .int .u64 0] 24)
    go_wp2_with fail
    obtain ⟨W0, hW0⟩ : ∃ W0, w.alloc (.cells #[.int .u64 0, .int .u64 (n : Int), .int .u64 0, .int .u64 0] 24) = W0 := ⟨_, rfl⟩
    rw [hW0] at LW Q ⊢
    clear hW0
    generalize (n : Int) = v at *
    go_loopw [6, 7] (fun vx i wr => ∃ z : Nat, z ≤ 41 ∧ i = .int .i64 ((z : Int) - 1) ∧ vx = .int .i64 ((RK (41 - z) : Nat) : Int) ∧ Has wr w.heap.size 24 #[.int .u64 0, .int .u64 v, .int .u64 0, .int .u64 0] ∧ Below w.heap.size w wr) (fun _ i _ => (intOf i + 1).toNat)
    case atStart => exact ⟨41, by omega, rfl, by rw [Nat.sub_self, HR0.out]; rfl, LW, Q⟩
    case round =>
      clear LW Q
      obtain ⟨z, hz, rfl, rfl, LW, Q⟩ := hrel
      by_cases hz0 : 0 < z
      · obtain ⟨k, rfl⟩ : ∃ k, z = k + 1 := ⟨z - 1, by omega⟩
        have ez : ((k + 1 : Nat) : Int) - 1 = (k : Int) := by omega
        rw [ez, show 41 - (k + 1) = 40 - k by omega]
        have hkI : (k : Int) < 41 := by omega
        have hk0 : (0 : Int) ≤ (k : Int) := by omega
        have hl := HRL.out (40 - k) (by omega)
        have hk' := HRK.out (40 - k)
        rw [show 41 - (40 - k) = k + 1 by omega, Nat.pow_succ] at hl
        rw [show 40 - (40 - k) = k by omega, show (40 - k) + 1 = 41 - k by omega] at hk'
        have hp1 : 1 ≤ 2 ^ k := Nat.one_le_two_pow
        have sh1 : IntKind.i64.wrap (2 ^ k) = ((2 ^ k : Nat) : Int) := by
          have : ((2 : Int) ^ k) = ((2 ^ k : Nat) : Int) := by rw [Int.natCast_pow]; rfl
          rw [this]
          have hb : 2 ^ k < 9223372036854775808 := by omega
          generalize 2 ^ k = p at *
          simp [IntKind.wrap, IntKind.bits, IntKind.signed]
          omega
        have sh2 : ((2 : Int) ^ k) = ((2 ^ k : Nat) : Int) := by rw [Int.natCast_pow]; rfl
        have hy41 : RK (40 - k) + 2 ^ k < 2 ^ 41 := by omega
        have es : ((RK (40 - k) : Nat) : Int) + ((2 ^ k : Nat) : Int) = ((RK (40 - k) + 2 ^ k : Nat) : Int) := by omega
        obtain ⟨p0, p1, p2, p3, q0, q1, q2, q3, hO, hM1, hM2, hC1, hC2⟩ := HSTEP.out (RK (40 - k) + 2 ^ k) hy41
        have hr41 : RK (40 - k) < 2 ^ 41 := by omega
        have hk41 : 2 ^ k < 2 ^ 41 := by omega
        clear hl
        generalize hy : RK (40 - k) + 2 ^ k = y at *
        generalize RK (40 - k) = r at *
        generalize 2 ^ k = pk at *
        have hyI : (y : Int) < 2199023255552 := by omega
        have hrI : (r : Int) < 2199023255552 := by omega
        have hpkI : (pk : Int) < 2199023255552 := by omega
        have hCL := wcmp_le (y * y) (wantN n false)
        rw [show powN y false = y * y from rfl] at hk'
        have hcmp : Hid (wcmp (y * y) (wantN n false) ≤ 0 ↔ y * y ≤ wantN n false) := Lib.hid hCL.1
        generalize hd : wcmp (y * y) (wantN n false) = d at *
        have HO := Lib.hid hO
        have HM1 := Lib.hid hM1
        have HM2 := Lib.hid hM2
        have HC := Lib.hid hC1
        have HK := Lib.hid hk'
        have HY := Lib.hid (And.intro hy hz)
        have HLW := Lib.hid LW
        have HQ := Lib.hid Q
        obtain ⟨_, d0, d1⟩ := hCL
        clear hO hM1 hM2 hC1 hC2 hk' LW Q hz hz0 hy hy41 hr41 hk41 hp1 hd
        go_wp2_with fail
        refine (HO.out _).mono ?_
        rintro e wc1 ⟨rfl, q⟩
        replace HLW := Lib.hid (HLW.out.later q)
        replace HQ := Lib.hid (HQ.out.trans (q.mono HQ.out.size))
        clear q
        go_wp2_with fail
        refine (HO.out _).mono ?_
        rintro e wc2 ⟨rfl, q⟩
        replace HLW := Lib.hid (HLW.out.later q)
        replace HQ := Lib.hid (HQ.out.trans (q.mono HQ.out.size))
        clear q
        go_wp2_with fail
        refine (HM1.out _).mono ?_
        rintro e wc3 ⟨rfl, q⟩
        replace HLW := Lib.hid (HLW.out.later q)
        replace HQ := Lib.hid (HQ.out.trans (q.mono HQ.out.size))
        clear q
        have HP := Lib.hid (Has.new wc3 24 #[.int .u64 p0, .int .u64 p1, .int .u64 p2, .int .u64 p3])
        have hb := HQ.out.size
        have hne : w.heap.size ≠ wc3.heap.size := by have := HLW.out.lt; omega
        replace HLW := Lib.hid (HLW.out.alloc (.cells #[.int .u64 p0, .int .u64 p1, .int .u64 p2, .int .u64 p3] 24))
        replace HQ := Lib.hid (HQ.out.alloc HQ.out.size (.cells #[.int .u64 p0, .int .u64 p1, .int .u64 p2, .int .u64 p3] 24))
        have k0 := HP.out.cell 0 _ rfl
        have k1 := HP.out.cell 1 _ rfl
        have k2 := HP.out.cell 2 _ rfl
        have k3 := HP.out.cell 3 _ rfl
        have j0 := HLW.out.cell 0 _ rfl
        have j1 := HLW.out.cell 1 _ rfl
        have j2 := HLW.out.cell 2 _ rfl
        have j3 := HLW.out.cell 3 _ rfl
        go_wp2_with fail
        clear k0 k1 k2 k3 j0 j1 j2 j3
        refine (HC.out _).mono ?_
        rintro e wc4 ⟨rfl, q⟩
        replace HLW := Lib.hid (HLW.out.later q)
        replace HQ := Lib.hid (HQ.out.trans (q.mono HQ.out.size))
        clear q
        by_cases hle : d ≤ 0
        · have hE : RK (41 - k) = y := by rw [HK.out, if_pos (Nat.ble_eq_true_of_le (hcmp.out.1 hle))]
          have HE := Lib.hid hE
          clear hE sh1 sh2 es d0 d1 hWL hW w1 w2 hne hb hyI hrI hpkI HSTEP ez
          go_wp2_with fail
          go_roundw
          case rel => exact ⟨k, by have := HY.out.2; omega, rfl, by rw [HE.out], HLW.out, HQ.out⟩
          case measure => first | (simp [intOf]; done) | (simp [intOf]; omega)
        · have hE : RK (41 - k) = r := by rw [HK.out, if_neg (fun h => hle (hcmp.out.2 (Nat.le_of_ble_eq_true h)))]
          have HE := Lib.hid hE
          clear hE sh1 sh2 es d0 d1 hWL hW w1 w2 hne hb hyI hrI hpkI HSTEP ez
          go_wp2_with fail
          go_roundw
          case rel => exact ⟨k, by have := HY.out.2; omega, rfl, by rw [HE.out], HLW.out, HQ.out⟩
          case measure => first | (simp [intOf]; done) | (simp [intOf]; omega)
      · obtain rfl : z = 0 := by omega
        have HQ := Lib.hid Q
        have hr := HRL.out 41 (by omega)
        rw [show 41 - 0 = 41 from rfl]
        have em : ((RK 41 : Nat) : Int).tmod 4294967296 = ((rtN n false : Nat) : Int) := by rw [HRT.out, Int.tmod_eq_emod_of_nonneg (by omega)]; omega
        have hrI : ((RK 41 : Nat) : Int) ≤ 2199023255552 := by omega
        clear LW Q hr
        go_wp2_with fail
        go_ret
        exact ⟨rfl, HQ.out⟩
  | true =>
    rw [hWL.2] at HSTEP
    have LW := Has.new w 24 #[.int .u64 0, .int .u64 ((n * 4294967296 : Nat) : Int), .int .u64 0, .int .u64 0]
    have Q := (Below.refl w.heap.size w).alloc (Nat.le_refl _) (.cells #[.int .u64 0, .int .u64 ((n * 4294967296 : Nat) : Int), .int .u64 0, .int .u64 0] 24)
    go_wp2_with fail
    obtain ⟨W0, hW0⟩ : ∃ W0, w.alloc (.cells #[.int .u64 0, .int .u64 ((n * 4294967296 : Nat) : Int), .int .u64 0, .int .u64 0] 24) = W0 := ⟨_, rfl⟩
    have hv : (n : Int) * 4294967296 = ((n * 4294967296 : Nat) : Int) := by omega
    rw [hv]
    rw [hW0] at LW Q ⊢
    clear hW0
    generalize ((n * 4294967296 : Nat) : Int) = v at *
    go_loopw [6, 7] (fun vx i wr => ∃ z : Nat, z ≤ 41 ∧ i = .int .i64 ((z : Int) - 1) ∧ vx = .int .i64 ((RK (41 - z) : Nat) : Int) ∧ Has wr w.heap.size 24 #[.int .u64 0, .int .u64 v, .int .u64 0, .int .u64 0] ∧ Below w.heap.size w wr) (fun _ i _ => (intOf i + 1).toNat)
    case atStart => exact ⟨41, by omega, rfl, by rw [Nat.sub_self, HR0.out]; rfl, LW, Q⟩
    case round =>
      clear LW Q
      obtain ⟨z, hz, rfl, rfl, LW, Q⟩ := hrel
      by_cases hz0 : 0 < z
      · obtain ⟨k, rfl⟩ : ∃ k, z = k + 1 := ⟨z - 1, by omega⟩
        have ez : ((k + 1 : Nat) : Int) - 1 = (k : Int) := by omega
        rw [ez, show 41 - (k + 1) = 40 - k by omega]
        have hkI : (k : Int) < 41 := by omega
        have hk0 : (0 : Int) ≤ (k : Int) := by omega
        have hl := HRL.out (40 - k) (by omega)
        have hk' := HRK.out (40 - k)
        rw [show 41 - (40 - k) = k + 1 by omega, Nat.pow_succ] at hl
        rw [show 40 - (40 - k) = k by omega, show (40 - k) + 1 = 41 - k by omega] at hk'
        have hp1 : 1 ≤ 2 ^ k := Nat.one_le_two_pow
        have sh1 : IntKind.i64.wrap (2 ^ k) = ((2 ^ k : Nat) : Int) := by
          have : ((2 : Int) ^ k) = ((2 ^ k : Nat) : Int) := by rw [Int.natCast_pow]; rfl
          rw [this]
          have hb : 2 ^ k < 9223372036854775808 := by omega
          generalize 2 ^ k = p at *
          simp [IntKind.wrap, IntKind.bits, IntKind.signed]
          omega
        have sh2 : ((2 : Int) ^ k) = ((2 ^ k : Nat) : Int) := by rw [Int.natCast_pow]; rfl
        have hy41 : RK (40 - k) + 2 ^ k < 2 ^ 41 := by omega
        have es : ((RK (40 - k) : Nat) : Int) + ((2 ^ k : Nat) : Int) = ((RK (40 - k) + 2 ^ k : Nat) : Int) := by omega
        obtain ⟨p0, p1, p2, p3, q0, q1, q2, q3, hO, hM1, hM2, hC1, hC2⟩ := HSTEP.out (RK (40 - k) + 2 ^ k) hy41
        have hr41 : RK (40 - k) < 2 ^ 41 := by omega
        have hk41 : 2 ^ k < 2 ^ 41 := by omega
        clear hl
        generalize hy : RK (40 - k) + 2 ^ k = y at *
        generalize RK (40 - k) = r at *
        generalize 2 ^ k = pk at *
        have hyI : (y : Int) < 2199023255552 := by omega
        have hrI : (r : Int) < 2199023255552 := by omega
        have hpkI : (pk : Int) < 2199023255552 := by omega
        have hCL := wcmp_le (y * y * y) (wantN n true)
        rw [show powN y true = y * y * y from rfl] at hk'
        have hcmp : Hid (wcmp (y * y * y) (wantN n true) ≤ 0 ↔ y * y * y ≤ wantN n true) := Lib.hid hCL.1
        generalize hd : wcmp (y * y * y) (wantN n true) = d at *
        have HO := Lib.hid hO
        have HM1 := Lib.hid hM1
        have HM2 := Lib.hid hM2
        have HC := Lib.hid hC2
        have HK := Lib.hid hk'
        have HY := Lib.hid (And.intro hy hz)
        have HLW := Lib.hid LW
        have HQ := Lib.hid Q
        obtain ⟨_, d0, d1⟩ := hCL
        clear hO hM1 hM2 hC1 hC2 hk' LW Q hz hz0 hy hy41 hr41 hk41 hp1 hd
        go_wp2_with fail
        refine (HO.out _).mono ?_
        rintro e wc5 ⟨rfl, q⟩
        replace HLW := Lib.hid (HLW.out.later q)
        replace HQ := Lib.hid (HQ.out.trans (q.mono HQ.out.size))
        clear q
        go_wp2_with fail
        refine (HO.out _).mono ?_
        rintro e wc6 ⟨rfl, q⟩
        replace HLW := Lib.hid (HLW.out.later q)
        replace HQ := Lib.hid (HQ.out.trans (q.mono HQ.out.size))
        clear q
        go_wp2_with fail
        refine (HM1.out _).mono ?_
        rintro e wc7 ⟨rfl, q⟩
        replace HLW := Lib.hid (HLW.out.later q)
        replace HQ := Lib.hid (HQ.out.trans (q.mono HQ.out.size))
        clear q
        have HP := Lib.hid (Has.new wc7 24 #[.int .u64 p0, .int .u64 p1, .int .u64 p2, .int .u64 p3])
        have hb := HQ.out.size
        have hne : w.heap.size ≠ wc7.heap.size := by have := HLW.out.lt; omega
        replace HLW := Lib.hid (HLW.out.alloc (.cells #[.int .u64 p0, .int .u64 p1, .int .u64 p2, .int .u64 p3] 24))
        replace HQ := Lib.hid (HQ.out.alloc HQ.out.size (.cells #[.int .u64 p0, .int .u64 p1, .int .u64 p2, .int .u64 p3] 24))
        go_wp2_with fail
        obtain ⟨wp, hwp⟩ : ∃ wp, wc7.alloc (.cells #[.int .u64 p0, .int .u64 p1, .int .u64 p2, .int .u64 p3] 24) = wp := ⟨_, rfl⟩
        rw [hwp] at HP HLW HQ ⊢
        clear hwp
        generalize wc7.heap.size = B9 at *
        have k0 : ∀ X : Ext wp, X.w.cell? ⟨B9, 0, none⟩ = some (.int .u64 p0) := fun X => (HP.out.later X.below).cell 0 _ rfl
        have k1 : ∀ X : Ext wp, X.w.cell? ⟨B9, 1, none⟩ = some (.int .u64 p1) := fun X => (HP.out.later X.below).cell 1 _ rfl
        have k2 : ∀ X : Ext wp, X.w.cell? ⟨B9, 2, none⟩ = some (.int .u64 p2) := fun X => (HP.out.later X.below).cell 2 _ rfl
        have k3 : ∀ X : Ext wp, X.w.cell? ⟨B9, 3, none⟩ = some (.int .u64 p3) := fun X => (HP.out.later X.below).cell 3 _ rfl
        refine wp_region_mix (C := Grows wp) [some true, some true, some true, none, none] hmx (by kernel_rfl) (by kernel_rfl) (grows_refl wp) ?_
        simp only [headOf, tailOf]
        repeat (go_big_quiet_step (first | (with_reducible exact Ret.at HO.out _)))
        refine wpQuiet_nil ?_
        rintro _ ⟨X, rfl⟩
        replace HP := Lib.hid (HP.out.later X.below)
        replace HLW := Lib.hid (HLW.out.later X.below)
        replace HQ := Lib.hid (HQ.out.trans (X.below.mono HQ.out.size))
        clear k0 k1 k2 k3
        obtain ⟨wx, hwx⟩ : ∃ wx, X.w = wx := ⟨_, rfl⟩
        rw [hwx] at HP HLW HQ ⊢
        clear hwx X
        go_wp2_with fail
        refine (HM2.out _).mono ?_
        rintro e wc8 ⟨rfl, q⟩
        replace HLW := Lib.hid (HLW.out.later q)
        replace HQ := Lib.hid (HQ.out.trans (q.mono HQ.out.size))
        replace HP := Lib.hid (HP.out.later q)
        clear q
        have k0 := HP.out.cell 0 _ rfl
        have k1 := HP.out.cell 1 _ rfl
        have k2 := HP.out.cell 2 _ rfl
        have k3 := HP.out.cell 3 _ rfl
        have z0 := HP.out.frozen 0
        have z1 := HP.out.frozen 1
        have z2 := HP.out.frozen 2
        have z3 := HP.out.frozen 3
        go_wp2_with fail
        rw [calmPost_normal]
        clear k0 k1 k2 k3 z0 z1 z2 z3
        replace HP := Lib.hid ((((HP.out.set 0 (.int .u64 q0)).set 1 (.int .u64 q1)).set 2 (.int .u64 q2)).set 3 (.int .u64 q3))
        simp only [List.setIfInBounds_toArray, List.set_cons_succ, List.set_cons_zero] at HP
        replace HLW := Lib.hid ((((HLW.out.other (p := ⟨B9, 0, none⟩) hne (.int .u64 q0)).other (p := ⟨B9, 1, none⟩) hne (.int .u64 q1)).other (p := ⟨B9, 2, none⟩) hne (.int .u64 q2)).other (p := ⟨B9, 3, none⟩) hne (.int .u64 q3))
        replace HQ := Lib.hid ((((HQ.out.setCell (p := ⟨B9, 0, none⟩) hb (.int .u64 q0)).setCell (p := ⟨B9, 1, none⟩) hb (.int .u64 q1)).setCell (p := ⟨B9, 2, none⟩) hb (.int .u64 q2)).setCell (p := ⟨B9, 3, none⟩) hb (.int .u64 q3))
        obtain ⟨wq, hwq⟩ : ∃ wq, ((((wc8.setCell ⟨B9, 0, none⟩ (.int .u64 q0)).setCell ⟨B9, 1, none⟩ (.int .u64 q1)).setCell ⟨B9, 2, none⟩ (.int .u64 q2)).setCell ⟨B9, 3, none⟩ (.int .u64 q3)) = wq := ⟨_, rfl⟩
        rw [hwq] at HP HLW HQ ⊢
        clear hwq
        have k0 := HP.out.cell 0 _ rfl
        have k1 := HP.out.cell 1 _ rfl
        have k2 := HP.out.cell 2 _ rfl
        have k3 := HP.out.cell 3 _ rfl
        have j0 := HLW.out.cell 0 _ rfl
        have j1 := HLW.out.cell 1 _ rfl
        have j2 := HLW.out.cell 2 _ rfl
        have j3 := HLW.out.cell 3 _ rfl
        go_wp2_with fail
        clear k0 k1 k2 k3 j0 j1 j2 j3
        refine (HC.out _).mono ?_
        rintro e wc9 ⟨rfl, q⟩
        replace HLW := Lib.hid (HLW.out.later q)
        replace HQ := Lib.hid (HQ.out.trans (q.mono HQ.out.size))
        clear q
        by_cases hle : d ≤ 0
        · have hE : RK (41 - k) = y := by rw [HK.out, if_pos (Nat.ble_eq_true_of_le (hcmp.out.1 hle))]
          have HE := Lib.hid hE
          clear hE sh1 sh2 es d0 d1 hWL hW w1 w2 hne hb hyI hrI hpkI HSTEP ez
          go_wp2_with fail
          go_roundw
          case rel => exact ⟨k, by have := HY.out.2; omega, rfl, by rw [HE.out], HLW.out, HQ.out⟩
          case measure => first | (simp [intOf]; done) | (simp [intOf]; omega)
        · have hE : RK (41 - k) = r := by rw [HK.out, if_neg (fun h => hle (hcmp.out.2 (Nat.le_of_ble_eq_true h)))]
          have HE := Lib.hid hE
          clear hE sh1 sh2 es d0 d1 hWL hW w1 w2 hne hb hyI hrI hpkI HSTEP ez
          go_wp2_with fail
          go_roundw
          case rel => exact ⟨k, by have := HY.out.2; omega, rfl, by rw [HE.out], HLW.out, HQ.out⟩
          case measure => first | (simp [intOf]; done) | (simp [intOf]; omega)
      · obtain rfl : z = 0 := by omega
        have HQ := Lib.hid Q
        have hr := HRL.out 41 (by omega)
        rw [show 41 - 0 = 41 from rfl]
        have em : ((RK 41 : Nat) : Int).tmod 4294967296 = ((rtN n true : Nat) : Int) := by rw [HRT.out, Int.tmod_eq_emod_of_nonneg (by omega)]; omega
        have hrI : ((RK 41 : Nat) : Int) ≤ 2199023255552 := by omega
        clear LW Q hr
        go_wp2_with fail
        go_ret
        exact ⟨rfl, HQ.out⟩
end Go.Proofs.YtnjmhcooejcehaaDoor
