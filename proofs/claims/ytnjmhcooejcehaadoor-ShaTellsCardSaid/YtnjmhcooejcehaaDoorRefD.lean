/- The document's own sums, differences and products of words. For every word. -/
import Derived.Test.YtnjmhcooejcehaaDoorRefC
import Derived.Deep.OwnRows
namespace Go.Proofs.YtnjmhcooejcehaaDoor
open Go Go.RowKit Go.Shelf
attribute [local go_sem] Oper.semAt_some Grows wide_fn

/-- Digits behind the last one are none. -/
def cut32 (d : Nat → Int) (j : Nat) : Int := if j < 32 then d j else 0
theorem cut32_val (d : Nat → Int) : valI (cut32 d) 32 = valI d 32 := valI_congr _ _ 32 (fun j hj => if_pos hj)
theorem cut32_range (d : Nat → Int) (h : ∀ j, 0 ≤ d j ∧ d j < 256) (j : Nat) : 0 ≤ cut32 d j ∧ cut32 d j < 256 := by
  unfold cut32
  split
  · exact h j
  · constructor <;> omega
theorem cut32_none (d : Nat → Int) (j : Nat) (h : 32 ≤ j) : cut32 d j = 0 := if_neg (by omega)
theorem zero_ints (W : World) (n : Nat) : IntsAt (W.alloc (.cells (madeCells #[.int .i64 0] n) 3)) W.heap.size n (fun _ => 0) := by
  refine ⟨madeCells #[.int .i64 0] n, World.alloc_heap_new W _, fun j hj => ?_⟩
  simp [madeCells, hj, Nat.mod_one]
theorem run_mkI (W : World) : (Instr.makeSlice 36 (.int .i64 32) (.int .i64 32)).run Tryd.prog W = .ok (.slice (some ⟨W.heap.size, 0, none⟩) 32 32) (W.alloc (.cells (madeCells #[.int .i64 0] 32) 3)) := by
  obtain ⟨i0, hi, hz0, hz1, hz2⟩ := info_parts infoI
  have h := run_make (P := Tryd.prog) W 36 3 i0 (.int .i64 0) Tryd.underlying36 hi hz0 .i64 .i64 32 32 (by decide) (by decide) (by rw [hz2]; decide) (by decide)
  rw [hz1] at h
  exact h
theorem tail_val (N : Nat) (M : Nat) (h : M = N) : wv M = .agg #[.int .u64 (lim N 0), .int .u64 (lim N 1), .int .u64 (lim N 2), .int .u64 (lim N 3)] := by rw [h]; rfl


/-! ### Products -/
/-- What the sums of products come to when i rows and k places of the next one are over. -/
def MulOk (a b i k : Nat) (z : Nat → Int) : Prop :=
  (∀ j, 0 ≤ z j ∧ z j ≤ ((i : Int) + 1) * 65025 ∧ (i + k ≤ j → z j ≤ (i : Int) * 65025)) ∧
    ∃ q : Int, valI z 32 = valI (fun j => (dg a j : Int)) i * (b : Int) + q * 115792089237316195423570985008687907853269984665640564039457584007913129639936 + (dg a i : Int) * 256 ^ i * valI (fun j => (dg b j : Int)) k
theorem mulOk_start (a b : Nat) : MulOk a b 0 0 (fun _ => 0) := by
  refine ⟨fun j => ⟨Int.le_refl 0, by show (0 : Int) ≤ _; omega, fun _ => by simp⟩, 0, ?_⟩
  rw [valI_zero]
  simp [valI]
theorem mulOk_step (a b i k : Nat) (z : Nat → Int) (h : MulOk a b i k z) (hk : i + k < 32) : MulOk a b i (k + 1) (fun j => if j = i + k then z (i + k) + (dg a i : Int) * (dg b k : Int) else z j) := by
  obtain ⟨h1, q, h2⟩ := h
  have da := dg_lt a i
  have db := dg_lt b k
  have hp : (dg a i : Int) * (dg b k : Int) ≤ 255 * 255 := Int.mul_le_mul (by omega) (by omega) (by omega) (by omega)
  have hp0 : 0 ≤ (dg a i : Int) * (dg b k : Int) := Int.mul_nonneg (by omega) (by omega)
  refine ⟨fun j => ?_, q, ?_⟩
  · obtain ⟨g1, g2, g3⟩ := h1 j
    show 0 ≤ (if j = i + k then _ else _) ∧ (if j = i + k then _ else _) ≤ _ ∧ (_ → (if j = i + k then _ else _) ≤ _)
    by_cases e : j = i + k
    · subst e
      rw [if_pos rfl]
      have := g3 (Nat.le_refl _)
      refine ⟨by omega, by omega, fun h => by omega⟩
    · rw [if_neg e]
      exact ⟨g1, g2, fun h => g3 (by omega)⟩
  · rw [valI_set z (i + k) _ 32 hk, h2, valI, Int.pow_add]
    generalize (256 : Int) ^ i = A
    generalize (256 : Int) ^ k = B
    generalize (dg a i : Int) = x
    generalize (dg b k : Int) = y
    generalize valI (fun j => (dg b j : Int)) k = V
    rw [show z (i + k) + x * y - z (i + k) = x * y by omega, Int.mul_add, show x * y * (A * B) = x * A * (y * B) by
      rw [Int.mul_assoc x y, Int.mul_assoc x A, ← Int.mul_assoc y A B, Int.mul_comm y A, Int.mul_assoc A y B]]
    omega
theorem mulOk_row (a b i k : Nat) (z : Nat → Int) (hb : W256 b) (h : MulOk a b i k z) (hk : i + k = 32) : MulOk a b (i + 1) 0 z := by
  obtain ⟨h1, q, h2⟩ := h
  obtain ⟨q', hq⟩ := mul_end a b i hb (by omega) (dg a i : Int)
  refine ⟨fun j => ?_, q + q', ?_⟩
  · obtain ⟨g1, g2, _⟩ := h1 j
    refine ⟨g1, by rw [Int.natCast_add]; omega, fun _ => by rw [Int.natCast_add]; omega⟩
  · obtain rfl : k = 32 - i := by omega
    rw [h2, hq, valI]
    simp only [valI, Int.mul_zero, Int.add_zero]
    generalize (256 : Int) ^ i = A
    generalize (dg a i : Int) = x
    generalize valI (fun j => (dg a j : Int)) i = V
    rw [Int.add_mul, Int.add_mul]
    omega
theorem mulOk_end (a b : Nat) (ha : W256 a) (z : Nat → Int) (h : MulOk a b 32 0 z) : (∀ j, -4194304 ≤ z j ∧ z j ≤ 4194304) ∧ (valI (rD z) 32).toNat = wmod (a * b) := by
  obtain ⟨h1, q, h2⟩ := h
  refine ⟨fun j => ?_, carried_num z (a * b) q ?_⟩
  · obtain ⟨g1, g2, _⟩ := h1 j
    constructor <;> omega
  · rw [h2, valI_word a ha, Int.natCast_mul]
    simp [valI]

set_option maxRecDepth 100000 in
set_option maxHeartbeats 4000000 in
theorem refMul_ret (a b : Nat) (ha : W256 a) (hb : W256 b) : Ret Tryd.prog 37 #[wv a, wv b] (wv (wmod (a * b))) := by
  intro w
  have HEND := Lib.hid (mulOk_end a b ha)
  have HROW := Lib.hid (fun i k z => mulOk_row a b i k z hb)
  have A1 := ((Arr4.word w 24 a).alloc (.cells #[.int .u64 (lim b 0), .int .u64 (lim b 1), .int .u64 (lim b 2), .int .u64 (lim b 3)] 24)).alloc (.cells #[.int .u64 0, .int .u64 0, .int .u64 0, .int .u64 0] 24)
  have A2 := (Arr4.word (w.alloc (.cells #[.int .u64 (lim a 0), .int .u64 (lim a 1), .int .u64 (lim a 2), .int .u64 (lim a 3)] 24)) 24 b).alloc (.cells #[.int .u64 0, .int .u64 0, .int .u64 0, .int .u64 0] 24)
  have A3 := Arr4.mk0' ((w.alloc (.cells #[.int .u64 (lim a 0), .int .u64 (lim a 1), .int .u64 (lim a 2), .int .u64 (lim a 3)] 24)).alloc (.cells #[.int .u64 (lim b 0), .int .u64 (lim b 1), .int .u64 (lim b 2), .int .u64 (lim b 3)] 24)) 24
  have B0 := (((Below.refl _ w).alloc (Nat.le_refl _) (.cells #[.int .u64 (lim a 0), .int .u64 (lim a 1), .int .u64 (lim a 2), .int .u64 (lim a 3)] 24)).alloc (by simp) (.cells #[.int .u64 (lim b 0), .int .u64 (lim b 1), .int .u64 (lim b 2), .int .u64 (lim b 3)] 24)).alloc (by simp; omega) (.cells #[.int .u64 0, .int .u64 0, .int .u64 0, .int .u64 0] 24)
  have s0 : w.heap.size + 3 ≤ (((w.alloc (.cells #[.int .u64 (lim a 0), .int .u64 (lim a 1), .int .u64 (lim a 2), .int .u64 (lim a 3)] 24)).alloc (.cells #[.int .u64 (lim b 0), .int .u64 (lim b 1), .int .u64 (lim b 2), .int .u64 (lim b 3)] 24)).alloc (.cells #[.int .u64 0, .int .u64 0, .int .u64 0, .int .u64 0] 24)).heap.size := by simp
  rw [World.size_alloc] at A2 A3
  rw [World.size_alloc] at A3
  have DA := digits_any a
  have DB := digits_any b
  have hmk := run_mkI
  unfold wv at DA DB ⊢
  clear ha hb
  go_enter Tryd.func37, Tryd.ntmps37
  go_wp2_with fail
  obtain ⟨W0, hW0⟩ : ∃ W0, ((w.alloc (.cells #[.int .u64 (lim a 0), .int .u64 (lim a 1), .int .u64 (lim a 2), .int .u64 (lim a 3)] 24)).alloc (.cells #[.int .u64 (lim b 0), .int .u64 (lim b 1), .int .u64 (lim b 2), .int .u64 (lim b 3)] 24)).alloc (.cells #[.int .u64 0, .int .u64 0, .int .u64 0, .int .u64 0] 24) = W0 := ⟨_, rfl⟩
  rw [hW0] at A1 A2 A3 B0 s0 ⊢
  clear hW0
  refine (DA _).mono ?_
  rintro e w1 ⟨g1, cap1, rfl, hg1, X1, q⟩
  have A2 := A2.later' q
  have A3 := A3.later' q
  have B0 := B0.trans (q.mono B0.size)
  have s1 := q.size
  clear q A1 DA
  obtain ⟨m0, m1, m2, m3⟩ := And.intro (A2.cell (j := 0) (by omega)) (And.intro (A2.cell (j := 1) (by omega)) (And.intro (A2.cell (j := 2) (by omega)) (A2.cell (j := 3) (by omega))))
  go_wp2_with fail
  clear m0 m1 m2 m3
  have hl1 := X1.lt
  refine (DB _).mono ?_
  rintro e w2 ⟨g2, cap2, rfl, hg2, X2, q⟩
  have A3 := (A3.later' q).alloc (.cells (madeCells #[.int .i64 0] 32) 3)
  have hl2 := X2.lt
  have X1 := (X1.later q).alloc (.cells (madeCells #[.int .i64 0] 32) 3)
  have X2 := X2.alloc (.cells (madeCells #[.int .i64 0] 32) 3)
  have X3 := zero_ints w2 32
  have B0 := B0.trans (q.mono B0.size)
  have s2 := q.size
  have B0 := B0.alloc B0.size (.cells (madeCells #[.int .i64 0] 32) 3)
  clear q A2 DB
  have hn1 : g1 ≠ w2.heap.size := by omega
  have hn2 : g2 ≠ w2.heap.size := by omega
  have hgb : w.heap.size + 3 ≤ w2.heap.size := by omega
  clear hg1 hg2 s0 s1 s2 hl1 hl2
  go_wp2
  obtain ⟨W3, hW3⟩ : ∃ W3, w2.alloc (.cells (madeCells #[.int .i64 0] 32) 3) = W3 := ⟨_, rfl⟩
  rw [hW3] at A3 X1 X2 X3 B0 ⊢
  clear hW3 hmk
  generalize w2.heap.size = g3 at *
  go_loopw [8] (fun i wr => ∃ (k : Nat) (z : Nat → Int), k ≤ 32 ∧ i = .int .i64 (k : Int) ∧ MulOk a b k 0 z ∧ Arr4 wr (w.heap.size + 1 + 1) 24 (fun _ => 0) ∧ IntsAt wr g1 32 (fun j => (dg a j : Int)) ∧ IntsAt wr g2 32 (fun j => (dg b j : Int)) ∧ IntsAt wr g3 32 z ∧ Below w.heap.size w wr) (fun i _ => 32 - (intOf i).toNat)
  case atStart => exact ⟨0, _, by omega, rfl, mulOk_start a b, A3, X1, X2, X3, B0⟩
  case round =>
    obtain ⟨i, z, hi, rfl, hok, a3, x1, x2, x3, hB⟩ := hrel
    clear A3 X1 X2 X3 B0
    by_cases hlt : i < 32
    · have hiI : (i : Int) < 32 := by omega
      have hi0 : (0 : Int) ≤ (i : Int) := by omega
      have HI := Lib.hid hlt
      have HOK := Lib.hid hok
      clear hi hlt hok
      obtain ⟨wo, rfl⟩ : ∃ wo : World, wo = wr := ⟨_, rfl⟩
      go_wp2
      go_loopw [9] (fun kk wr => ∃ (k : Nat) (z : Nat → Int), i + k ≤ 32 ∧ kk = .int .i64 (k : Int) ∧ MulOk a b i k z ∧ Arr4 wr (w.heap.size + 1 + 1) 24 (fun _ => 0) ∧ IntsAt wr g1 32 (fun j => (dg a j : Int)) ∧ IntsAt wr g2 32 (fun j => (dg b j : Int)) ∧ IntsAt wr g3 32 z ∧ Below w.heap.size w wr) (fun kk _ => 32 - (intOf kk).toNat)
      case atStart => exact ⟨0, z, by have := HI.out; omega, rfl, HOK.out, a3, x1, x2, x3, hB⟩
      case round =>
        clear a3 x1 x2 x3 hB HOK
        obtain ⟨k, z, hk, rfl, hok, a3, x1, x2, x3, hB⟩ := hrel
        by_cases hlt : i + k < 32
        · have hk0 : (0 : Int) ≤ (k : Int) := by omega
          have hkI : (k : Int) < 32 := by omega
          have hik : (i : Int) + (k : Int) < 32 := by omega
          have hik0 : (0 : Int) ≤ (i : Int) + (k : Int) := by omega
          have hst := Lib.hid (mulOk_step a b i k z hok hlt)
          obtain ⟨z0, z1, z2⟩ := hok.1 (i + k)
          have da := dg_lt a i
          have db := dg_lt b k
          have hp : (dg a i : Int) * (dg b k : Int) ≤ 255 * 255 := Int.mul_le_mul (by omega) (by omega) (by omega) (by omega)
          have hp0 : 0 ≤ (dg a i : Int) * (dg b k : Int) := Int.mul_nonneg (by omega) (by omega)
          have HA := Lib.hid a3
          have H1 := Lib.hid x1
          have H2 := Lib.hid x2
          have H3 := Lib.hid x3
          have HB := Lib.hid hB
          have HK := Lib.hid hlt
          have hmx : Tryd.prog.follows .mixedOrders = true := by kernel_rfl
          have e1 : ∀ x : Ext wr, x.w.cell? ⟨g1, i, none⟩ = some (.int .i64 (dg a i : Int)) := fun x => (H1.out.later x.below).cell HI.out
          have e2 : ∀ x : Ext wr, x.w.cell? ⟨g2, k, none⟩ = some (.int .i64 (dg b k : Int)) := fun x => (H2.out.later x.below).cell (by have := HK.out; omega)
          have e3 : ∀ x : Ext wr, x.w.cell? ⟨g3, i + k, none⟩ = some (.int .i64 (z (i + k))) := fun x => (H3.out.later x.below).cell HK.out
          have f3 : ∀ x : Ext wr, x.w.frozen? ⟨g3, i + k, none⟩ = false := fun x => (H3.out.later x.below).frozen (i + k)
          have a0 : (0 : Int) ≤ (dg a i : Int) := by omega
          have a9 : (dg a i : Int) < 256 := by omega
          have b0 : (0 : Int) ≤ (dg b k : Int) := by omega
          have b9 : (dg b k : Int) < 256 := by omega
          have hz9 : z (i + k) ≤ 2145825 := by omega
          have hnn : ((i : Int) + (k : Int)).toNat = i + k := by omega
          have hcc : ((i + k : Nat) : Int) = (i : Int) + (k : Int) := Int.natCast_add i k
          generalize (dg a i : Int) = u at *
          generalize (dg b k : Int) = v at *
          generalize z (i + k) = zz at *
          generalize hpp : u * v = pp at *
          clear hk hlt da db hok a3 x1 x2 x3 hB z1 z2
          go_wp2
          refine wp_region_mix (C := Grows wr) [some true, some true, some true, some true, some true, some true, some true, some true, some true, some true, some true, some true, some true, some true, some true, some true, some true, some true, some true, some true, some true, none] hmx (by kernel_rfl) (by kernel_rfl) (grows_refl wr) ?_
          simp only [headOf, tailOf]
          repeat (go_big_quiet_step (fail))
          refine wpQuiet_nil ?_
          rintro _ ⟨x, rfl⟩
          have N1 := Lib.hid ((HA.out.later' x.below).other (p := ⟨g3, i + k, none⟩) (show w.heap.size + 1 + 1 ≠ g3 by omega) (.int .i64 (zz + pp)))
          have N2 := Lib.hid ((H1.out.later x.below).other (p := ⟨g3, i + k, none⟩) hn1 (.int .i64 (zz + pp)))
          have N3 := Lib.hid ((H2.out.later x.below).other (p := ⟨g3, i + k, none⟩) hn2 (.int .i64 (zz + pp)))
          have N4 := Lib.hid ((H3.out.later x.below).set HK.out (zz + pp))
          have N5 := Lib.hid ((HB.out.trans (x.below.mono HB.out.size)).setCell (p := ⟨g3, i + k, none⟩) (show w.heap.size ≤ g3 by omega) (.int .i64 (zz + pp)))
          go_wp2
          rw [calmPost_normal]
          go_wp2
          go_roundw
          case rel => exact ⟨k + 1, _, by have := HK.out; omega, by simp, hst.out, N1.out, N2.out, N3.out, N4.out, N5.out⟩
          case measure => have := HK.out; simp [intOf]; omega
        · have hik : i + k = 32 := by omega
          have HOK := Lib.hid (HROW.out i k z hok hik)
          have hikI : (i : Int) + (k : Int) = 32 := by omega
          have hk0 : (0 : Int) ≤ (k : Int) := by omega
          have hkI : (k : Int) ≤ 32 := by omega
          have N1 := Lib.hid a3
          have N2 := Lib.hid x1
          have N3 := Lib.hid x2
          have N4 := Lib.hid x3
          have N5 := Lib.hid hB
          clear hk hlt hik hok a3 x1 x2 x3 hB
          go_wp2
          go_roundw
          case rel => exact ⟨i + 1, z, HI.out, by simp, HOK.out, N1.out, N2.out, N3.out, N4.out, N5.out⟩
          case measure => have := HI.out; simp [intOf]; omega
    · obtain rfl : i = 32 := by omega
      obtain ⟨hd, hnum⟩ := HEND.out z hok
      have HN : Hid ((valI (cut32 (rD z)) 32).toNat = wmod (a * b)) := by show _ = _; rw [cut32_val]; exact hnum
      clear hi hok hnum HROW HEND
      have HA := Lib.hid a3
      have HB := Lib.hid hB
      have CC := carried_any z hd g3 32 wr x3
      clear hlt a3 x3 hB x1 x2 hd
      go_wp2_with fail
      refine CC.mono ?_
      rintro e w3 ⟨g4, cap4, rfl, hg4, X4, q⟩
      have a3 := HA.out.later' q
      have hB := HB.out.trans (q.mono HB.out.size)
      have DD := fromDigits_any (cut32 (rD z)) (cut32_range _ (rD_range _)) 32 g4 cap4 (by omega) (fun j hj => cut32_none _ j hj) w3 (X4.congr (fun j hj => (if_pos hj).symm))
      rw [HN.out] at DD
      clear q CC HA HB X4
      go_wp2_with fail
      refine DD.mono ?_
      rintro e w4 ⟨rfl, q⟩
      have a3 := a3.later' q
      have HB := Lib.hid (hB.trans (q.mono hB.size))
      clear q DD hB HN
      have f0 := a3.frozen 0
      have f1 := a3.frozen 1
      have f2 := a3.frozen 2
      have f3 := a3.frozen 3
      have d0 := a3.cell (j := 0) (by omega)
      have d1 := a3.cell (j := 1) (by omega)
      have d2 := a3.cell (j := 2) (by omega)
      have d3 := a3.cell (j := 3) (by omega)
      have HA := Lib.hid a3
      clear a3
      unfold wv
      go_wp2
      refine bodyPost_ret (results_word rfl rfl (HA.out.store _)) rfl ⟨rfl, ?_⟩
      exact (((HB.out.setCell (p := ⟨w.heap.size + 1 + 1, 0, none⟩) (by simp; omega) _).setCell (p := ⟨w.heap.size + 1 + 1, 1, none⟩) (by simp; omega) _).setCell (p := ⟨w.heap.size + 1 + 1, 2, none⟩) (by simp; omega) _).setCell (p := ⟨w.heap.size + 1 + 1, 3, none⟩) (by simp; omega) _
end Go.Proofs.YtnjmhcooejcehaaDoor
