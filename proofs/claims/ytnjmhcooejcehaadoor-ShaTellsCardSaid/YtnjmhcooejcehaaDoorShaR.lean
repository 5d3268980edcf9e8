/- The reference's functions of bits of numbers of 32. -/
import Derived.Test.YtnjmhcooejcehaaDoorShaQ
namespace Go.Proofs.YtnjmhcooejcehaaDoor
open Go Go.RowKit Go.Shelf
attribute [local go_sem] Oper.semAt_some Grows wide_fn

theorem b32_xor (x y i : Nat) : b32 (x ^^^ y) i = (b32 x i + b32 y i) % 2 := tb_xor x y i
theorem b32_rr (x s i : Nat) (hx : x < 2 ^ 32) (h0 : 0 < s) (hs : s < 32) (hi : i < 32) : b32 (rr x s) i = b32 x ((i + s) % 32) := by
  unfold b32 tb
  rw [rr_bit x s i hx h0 hs hi]
theorem b32_div (x s i : Nat) : b32 (x / 2 ^ s) i = b32 x (i + s) := by
  unfold b32 tb
  rw [Nat.testBit_div_two_pow]
theorem b32_high (x i : Nat) (hx : x < 2 ^ 32) (hi : 32 ≤ i) : b32 x i = 0 := by
  unfold b32 tb
  rw [Nat.testBit_lt_two_pow (Nat.lt_of_lt_of_le hx (Nat.pow_le_pow_right (by omega) hi))]
  rfl
/-- What is mixed of a number. -/
def mxN (n x y z : Nat) (sh : Bool) : Nat := rr n x ^^^ rr n y ^^^ (if sh = true then n / 2 ^ z else rr n z)
theorem mxN_lt (n x y z : Nat) (sh : Bool) (hn : n < 2 ^ 32) : mxN n x y z sh < 2 ^ 32 := by
  unfold mxN
  refine Nat.xor_lt_two_pow (Nat.xor_lt_two_pow (rr_lt _ _ hn) (rr_lt _ _ hn)) ?_
  split
  · exact div_lt32 _ _ hn
  · exact rr_lt _ _ hn
theorem mxN_bit (n x y z : Nat) (sh : Bool) (hn : n < 2 ^ 32) (hx : 0 < x ∧ x < 32) (hy : 0 < y ∧ y < 32) (hz : 0 < z ∧ z < 32) (i : Nat) (hi : i < 32) :
    b32 (mxN n x y z sh) i = (b32 n ((i + x) % 32) + b32 n ((i + y) % 32) + (if sh = false ∨ i + z < 32 then b32 n ((i + z) % 32) else 0)) % 2 := by
  unfold mxN
  rw [b32_xor, b32_xor, b32_rr n x i hn hx.1 hx.2 hi, b32_rr n y i hn hy.1 hy.2 hi]
  cases sh with
  | false =>
    rw [if_neg (by decide), if_pos (.inl rfl), b32_rr n z i hn hz.1 hz.2 hi]
    omega
  | true =>
    rw [if_pos rfl, b32_div]
    by_cases h : i + z < 32
    · rw [if_pos (.inr h), Nat.mod_eq_of_lt h]
      omega
    · rw [if_neg (by simp; omega), b32_high n (i + z) hn (by omega)]
      omega
theorem chN_bit (e f g i : Nat) (hi : i < 32) : b32 (chN e f g) i = (b32 e i * b32 f i + (1 - b32 e i) * b32 g i) % 2 := by
  unfold chN b32 tb
  have h : Nat.testBit 4294967295 i = true := by
    rw [show 4294967295 = 2 ^ 32 - 1 from rfl, Nat.testBit_two_pow_sub_one, decide_eq_true hi]
  rw [Nat.testBit_xor, Nat.testBit_and, Nat.testBit_and, Nat.testBit_xor, h]
  cases e.testBit i <;> cases f.testBit i <;> cases g.testBit i <;> rfl
theorem majN_bit (a b c i : Nat) : b32 (majN a b c) i = (b32 a i * b32 b i + b32 a i * b32 c i + b32 b i * b32 c i) % 2 := by
  unfold majN b32 tb
  rw [Nat.testBit_xor, Nat.testBit_xor, Nat.testBit_and, Nat.testBit_and, Nat.testBit_and]
  cases a.testBit i <;> cases b.testBit i <;> cases c.testBit i <;> rfl
/-- The bits of which i are made. -/
def upN (F G : Nat → Nat) (i j : Nat) : Nat := if j < i then F j else G j
theorem upN_set (F G : Nat → Nat) (i : Nat) : ∀ j, j < 32 → upN F G (i + 1) j = if j = i then F i else upN F G i j := fun j _ => by
  unfold upN
  by_cases e : j = i
  · rw [if_pos e, if_pos (by omega), e]
  · rw [if_neg e]
    by_cases h : j < i
    · rw [if_pos (by omega), if_pos h]
    · rw [if_neg (by omega), if_neg h]

set_option maxRecDepth 100000 in
set_option maxHeartbeats 8000000 in
theorem mixed_ret (n x y z : Nat) (sh : Bool) (hn : n < 4294967296) (hx : 0 < x ∧ x < 32) (hy : 0 < y ∧ y < 32) (hz : 0 < z ∧ z < 32) :
    Ret Tryd.prog 34 #[.int .i64 (n : Int), .int .i64 (x : Int), .int .i64 (y : Int), .int .i64 (z : Int), .bool sh] (.int .i64 ((mxN n x y z sh : Nat) : Int)) := by
  intro w
  have hmx : Tryd.prog.follows .mixedOrders = true := by kernel_rfl
  have HBIT := Lib.hid (mxN_bit n x y z sh hn hx hy hz)
  have HNUM := Lib.hid (mxN_lt n x y z sh hn)
  have hxI : (x : Int) < 32 := by omega
  have hyI : (y : Int) < 32 := by omega
  have hzI : (z : Int) < 32 := by omega
  have hx0 : (0 : Int) < (x : Int) := by omega
  have hy0 : (0 : Int) < (y : Int) := by omega
  have hz0 : (0 : Int) < (z : Int) := by omega
  generalize mxN n x y z sh = N at *
  go_enter Tryd.func34, Tryd.ntmps34
  go_wp2_with fail
  refine (bits_any n hn w).mono ?_
  rintro e w1 ⟨g, cg, rfl, hg, RB, q⟩
  have hmk := run_mkN w1 32 (by omega)
  have LM := Has.new w1 3 (inC 32 fun _ => 0)
  have Q := q.alloc q.size (.cells (inC 32 fun _ => 0) 3)
  have HBL := Lib.hid (And.intro hg RB.lt)
  have HC := Lib.hid (show CellsAt (w1.alloc (.cells (inC 32 fun _ => 0) 3)) g 32 (b32 n) from (RB.alloc _).cellsAt)
  have HW := Lib.hid q.size
  clear q RB hx hy hz hg
  obtain ⟨W1, hW1⟩ : ∃ W1, w1.alloc (.cells (inC 32 fun _ => 0) 3) = W1 := ⟨_, rfl⟩
  rw [hW1] at hmk LM Q HC
  have hs1 : W1.heap.size = w1.heap.size + 1 := by rw [← hW1]; simp
  clear hW1
  rw [inC_congr 32 (fun _ => 0) (upN (b32 N) (fun _ => 0) 0) (fun j _ => by unfold upN; rw [if_neg (by omega)])] at LM
  simp only [Int.cast_ofNat_Int] at hmk
  generalize w1.heap.size = B at *
  go_wp2_with fail
  clear hmk
  go_loopw [13] (fun i wr => ∃ k : Nat, k ≤ 32 ∧ i = .int .i64 (k : Int) ∧ Has wr B 3 (inC 32 (upN (b32 N) (fun _ => 0) k)) ∧ CellsAt wr g 32 (b32 n) ∧ Below w.heap.size w wr) (fun i _ => 32 - (intOf i).toNat)
  case atStart => exact ⟨0, by omega, rfl, LM, HC.out, Q⟩
  case round =>
    clear LM Q HC
    obtain ⟨k, hk, rfl, L, C, Q⟩ := hrel
    by_cases hlt : k < 32
    · have hkI : (k : Int) < 32 := by omega
      have hk0 : (0 : Int) ≤ (k : Int) := by omega
      have ex : ((k : Int) + (x : Int)).tmod 32 = (((k + x) % 32 : Nat) : Int) := by rw [Int.tmod_eq_emod_of_nonneg (by omega)]; omega
      have ey : ((k : Int) + (y : Int)).tmod 32 = (((k + y) % 32 : Nat) : Int) := by rw [Int.tmod_eq_emod_of_nonneg (by omega)]; omega
      have ez : ((k : Int) + (z : Int)).tmod 32 = (((k + z) % 32 : Nat) : Int) := by rw [Int.tmod_eq_emod_of_nonneg (by omega)]; omega
      have hbit := HBIT.out k hlt
      have kx : ∀ X : Ext wr, X.w.cell? ⟨g, (k + x) % 32, none⟩ = some (.int .i64 ((b32 n ((k + x) % 32) : Nat) : Int)) := fun X => (X.below.cell (p := ⟨g, _, none⟩) (C.lt (by omega))).trans (C _ (Nat.mod_lt _ (by omega)))
      have ky : ∀ X : Ext wr, X.w.cell? ⟨g, (k + y) % 32, none⟩ = some (.int .i64 ((b32 n ((k + y) % 32) : Nat) : Int)) := fun X => (X.below.cell (p := ⟨g, _, none⟩) (C.lt (by omega))).trans (C _ (Nat.mod_lt _ (by omega)))
      have h1 := b32_le n ((k + x) % 32)
      have h2 := b32_le n ((k + y) % 32)
      have h3 := b32_le n ((k + z) % 32)
      have x32 : (k + x) % 32 < 32 := Nat.mod_lt _ (by omega)
      have y32 : (k + y) % 32 < 32 := Nat.mod_lt _ (by omega)
      have z32 : (k + z) % 32 < 32 := Nat.mod_lt _ (by omega)
      have HZC := Lib.hid (fun (W : World) (hC : CellsAt W g 32 (b32 n)) => hC ((k + z) % 32) (Nat.mod_lt _ (by omega)))
      generalize b32 n ((k + x) % 32) = bx at *
      generalize b32 n ((k + y) % 32) = by' at *
      generalize b32 n ((k + z) % 32) = bz at *
      generalize (k + x) % 32 = px at *
      generalize (k + y) % 32 = py at *
      generalize (k + z) % 32 = pz at *
      have pxI : (px : Int) < 32 := by omega
      have pyI : (py : Int) < 32 := by omega
      have pzI : (pz : Int) < 32 := by omega
      have bxI : (bx : Int) ≤ 1 := by omega
      have byI : (by' : Int) ≤ 1 := by omega
      have bzI : (bz : Int) ≤ 1 := by omega
      have HL := Lib.hid L
      have HC := Lib.hid C
      have HQ := Lib.hid Q
      have HLT := Lib.hid hlt
      clear L C Q hlt hk h1 h2 h3 x32 y32 z32
      go_wp2_with fail
      refine wp_region_quietL (C := Grows wr) hmx (by kernel_rfl) (grows_refl wr) ?_
      repeat (go_big_quiet_step (fail))
      refine wpQuiet_nil ?_
      rintro _ ⟨X, rfl⟩
      replace HC : Hid (CellsAt X.w g 32 (b32 n)) := Lib.hid (HC.out.below X.below (HC.out.lt (by omega)))
      replace HL := Lib.hid (HL.out.later X.below)
      replace HQ := Lib.hid (HQ.out.trans (X.below.mono HQ.out.size))
      clear kx ky
      obtain ⟨w2, hw2⟩ : ∃ w2, X.w = w2 := ⟨_, rfl⟩
      rw [hw2] at HC HL HQ ⊢
      clear hw2 X
      have kz := HZC.out w2 HC.out
      have kc := HL.out.cell _ _ (inC_get 32 _ k HLT.out)
      have kzf := HL.out.frozen k
      have fin : ∀ v : Nat, b32 N k = v → Has (w2.setCell ⟨B, k, none⟩ (.int .i64 ((v : Nat) : Int))) B 3 (inC 32 (upN (b32 N) (fun _ => 0) (k + 1))) ∧ CellsAt (w2.setCell ⟨B, k, none⟩ (.int .i64 ((v : Nat) : Int))) g 32 (b32 n) ∧ Below w.heap.size w (w2.setCell ⟨B, k, none⟩ (.int .i64 ((v : Nat) : Int))) := fun v hv => by
        subst hv
        refine ⟨?_, HC.out.below ((Below.refl B w2).setCell (p := ⟨B, k, none⟩) (Nat.le_refl _) _) (by have := HBL.out.2; omega), HQ.out.setCell (p := ⟨B, k, none⟩) (by have := HW.out; omega) _⟩
        have := HL.out.set k (.int .i64 ((b32 N k : Nat) : Int))
        rwa [inC_set 32 _ (upN (b32 N) (fun _ => 0) (k + 1)) k _ (upN_set (b32 N) (fun _ => 0) k)] at this
      have HFIN := Lib.hid fin
      clear fin HZC
      by_cases hc : sh = false ∨ k + z < 32
      · rw [if_pos hc] at hbit
        have em : ((bx : Int) + (by' : Int) + (bz : Int)).tmod 2 = (((bx + by' + bz) % 2 : Nat) : Int) := by rw [Int.tmod_eq_emod_of_nonneg (by omega)]; omega
        have HF := Lib.hid (HFIN.out _ hbit)
        clear hbit HFIN HL HC HQ
        generalize (bx + by' + bz) % 2 = v at *
        cases sh with
        | false =>
          go_wp2_with fail
          go_roundw
          case rel => exact ⟨k + 1, by have := HLT.out; omega, by simp, HF.out.1, HF.out.2.1, HF.out.2.2⟩
          case measure => simp [intOf]; omega
        | true =>
          have hkz : (k : Int) + (z : Int) < 32 := by rcases hc with h | h; cases h; omega
          go_wp2_with fail
          go_roundw
          case rel => exact ⟨k + 1, by have := HLT.out; omega, by simp, HF.out.1, HF.out.2.1, HF.out.2.2⟩
          case measure => simp [intOf]; omega
      · rw [if_neg hc, Nat.add_zero] at hbit
        have em : ((bx : Int) + (by' : Int)).tmod 2 = (((bx + by') % 2 : Nat) : Int) := by rw [Int.tmod_eq_emod_of_nonneg (by omega)]; omega
        have HF := Lib.hid (HFIN.out _ hbit)
        have hkz : ¬ (k : Int) + (z : Int) < 32 := fun h => hc (.inr (by omega))
        obtain rfl : sh = true := by cases sh; exact (hc (.inl rfl)).elim; rfl
        clear hbit HFIN HL HC HQ hc
        generalize (bx + by') % 2 = v at *
        go_wp2_with fail
        go_roundw
        case rel => exact ⟨k + 1, by have := HLT.out; omega, by simp, HF.out.1, HF.out.2.1, HF.out.2.2⟩
        case measure => simp [intOf]; omega
    · obtain rfl : k = 32 := by omega
      simp only [Int.cast_ofNat_Int]
      rw [inC_congr 32 (upN (b32 N) (fun _ => 0) 32) (b32 N) (fun j hj => if_pos hj)] at L
      have HQ := Lib.hid Q
      have HL := Lib.hid L
      clear L C Q
      go_wp2_with fail
      refine (number_any N B 32 HNUM.out wr HL.out.cellsAt).mono ?_
      rintro e w5 ⟨rfl, rfl⟩
      go_wp2_with fail
      go_ret
      exact ⟨rfl, HQ.out⟩

theorem grown_of_set (W : World) (g k : Nat) (v : Value) : W.grownBy (W.setCell ⟨g, k, none⟩ v) (some g) :=
  ⟨rfl, rfl, rfl, by show _ ≤ (W.heap.modify g _).size; rw [Array.size_modify]; exact Nat.le_refl _, fun j _ hj => Below.heap_setCell W ⟨g, k, none⟩ v j (fun e => hj (by rw [e]))⟩

set_option maxRecDepth 100000 in
set_option maxHeartbeats 8000000 in
theorem picked_ret (a b c : Nat) (ha : a < 4294967296) (hb : b < 4294967296) (hc : c < 4294967296) :
    Ret Tryd.prog 35 #[.int .i64 (a : Int), .int .i64 (b : Int), .int .i64 (c : Int)] (.int .i64 ((chN a b c : Nat) : Int)) := by
  intro w
  have hmx : Tryd.prog.follows .mixedOrders = true := by kernel_rfl
  have HNUM : Hid (chN a b c < 4294967296) := Lib.hid (chN_lt a b c ha hc)
  have HBIT : Hid (∀ i, i < 32 → b32 (chN a b c) i = (b32 a i * b32 b i + (1 - b32 a i) * b32 c i) % 2) := Lib.hid (fun i hi => chN_bit a b c i hi)
  generalize chN a b c = N at *
  go_enter Tryd.func35, Tryd.ntmps35
  go_wp2_with fail
  refine (bits_any a ha w).mono ?_
  rintro e w1 ⟨ga, ca, rfl, hga, RA, q⟩
  have Q := Lib.hid q
  have HRA := Lib.hid RA
  clear q RA
  go_wp2_with fail
  refine (bits_any b hb w1).mono ?_
  rintro e w2 ⟨gb, cb, rfl, hgb, RB, q⟩
  have hab : ga < gb := by have := HRA.out.lt; omega
  replace HRA := Lib.hid (HRA.out.later q)
  replace Q := Lib.hid (Q.out.trans (q.mono Q.out.size))
  have HRB := Lib.hid RB
  clear q RB hgb
  go_wp2_with fail
  refine (bits_any c hc w2).mono ?_
  rintro e w3 ⟨gc, cc, rfl, hgc, RC, q⟩
  have hac : ga < gc := by have := HRA.out.lt; omega
  replace HRA := Lib.hid (HRA.out.later q)
  replace HRB := Lib.hid (HRB.out.later q)
  replace Q := Lib.hid (Q.out.trans (q.mono Q.out.size))
  have HRC := Lib.hid RC
  have HG := Lib.hid (And.intro hga (And.intro hab hac))
  have R0 := Lib.hid (HRA.out.congr (B := upN (b32 N) (b32 a) 0) (fun j _ => by unfold upN; rw [if_neg (by omega)]))
  clear q RC hgc HRA hga hab hac
  go_wp2_with fail
  go_loopw [10] (fun i wr => ∃ k : Nat, k ≤ 32 ∧ i = .int .i64 (k : Int) ∧ RowAt wr ga 32 (upN (b32 N) (b32 a) k) ∧ RowAt wr gb 32 (b32 b) ∧ RowAt wr gc 32 (b32 c) ∧ Below w.heap.size w wr) (fun i _ => 32 - (intOf i).toNat)
  case atStart => exact ⟨0, by omega, rfl, R0.out, HRB.out, HRC.out, Q.out⟩
  case round =>
    clear R0 HRB HRC Q
    obtain ⟨k, hk, rfl, RA, RB, RC, Q⟩ := hrel
    by_cases hlt : k < 32
    · have hkI : (k : Int) < 32 := by omega
      have hk0 : (0 : Int) ≤ (k : Int) := by omega
      have hbit := HBIT.out k hlt
      have ua : upN (b32 N) (b32 a) k k = b32 a k := if_neg (by omega)
      have ka : ∀ X : Ext wr, X.w.cell? ⟨ga, k, none⟩ = some (.int .i64 ((b32 a k : Nat) : Int)) := fun X => by rw [← ua]; exact (RA.later X.below).cellsAt k hlt
      have kb : ∀ X : Ext wr, X.w.cell? ⟨gb, k, none⟩ = some (.int .i64 ((b32 b k : Nat) : Int)) := fun X => (RB.later X.below).cellsAt k hlt
      have kc : ∀ X : Ext wr, X.w.cell? ⟨gc, k, none⟩ = some (.int .i64 ((b32 c k : Nat) : Int)) := fun X => (RC.later X.below).cellsAt k hlt
      have h1 := b32_le a k
      have h2 := b32_le b k
      have h3 := b32_le c k
      have HLT := Lib.hid hlt
      have HRA := Lib.hid RA
      have HRB := Lib.hid RB
      have HRC := Lib.hid RC
      have HQ := Lib.hid Q
      clear RA RB RC Q ua hk hlt
      generalize b32 a k = A at *
      generalize b32 b k = B at *
      generalize b32 c k = C at *
      rw [show b32 N k = b32 N k from rfl] at hbit
      have e1 : (A : Int) * (B : Int) = ((A * B : Nat) : Int) := by rw [Int.natCast_mul]
      have e2 : 1 - (A : Int) = ((1 - A : Nat) : Int) := by omega
      have e3 : ((1 - A : Nat) : Int) * (C : Int) = (((1 - A) * C : Nat) : Int) := by rw [Int.natCast_mul]
      have l1 : A * B ≤ 1 := by have := Nat.mul_le_mul h1 h2; omega
      have l3 : (1 - A) * C ≤ 1 := by have := Nat.mul_le_mul (show 1 - A ≤ 1 by omega) h3; omega
      have e5 : ((A * B : Nat) : Int) + (((1 - A) * C : Nat) : Int) = ((A * B + (1 - A) * C : Nat) : Int) := by omega
      have l5 : A * B + (1 - A) * C ≤ 2 := by omega
      generalize (1 - A) * C = p3 at *
      generalize A * B = p1 at *
      generalize hA1 : 1 - A = A1 at *
      have A1I : (A1 : Int) ≤ 1 := by omega
      clear hA1
      have e6 : ((p1 + p3 : Nat) : Int).tmod 2 = (((p1 + p3) % 2 : Nat) : Int) := by rw [Int.tmod_eq_emod_of_nonneg (by omega)]; omega
      generalize (p1 + p3) % 2 = v at *
      generalize p1 + p3 = s at *
      have AI : (A : Int) ≤ 1 := by omega
      have BI : (B : Int) ≤ 1 := by omega
      have CI : (C : Int) ≤ 1 := by omega
      have p1I : (p1 : Int) ≤ 1 := by omega
      have p3I : (p3 : Int) ≤ 1 := by omega
      have sI : (s : Int) ≤ 2 := by omega
      have HB : Hid (∀ j, j < 32 → upN (b32 N) (b32 a) (k + 1) j = if j = k then v else upN (b32 N) (b32 a) k j) := Lib.hid (fun j hj => by rw [← hbit]; exact upN_set (b32 N) (b32 a) k j hj)
      clear hbit
      go_wp2_with fail
      refine wp_region_mix (C := Grows wr) [some true, some true, some true, some true, some true, some true, some true, some true, some true, some true, some true, some true, some true, some true, some true, some true, some true, some true, some true, some true, some true, some true, some true, some true, none] hmx (by kernel_rfl) (by kernel_rfl) (grows_refl wr) ?_
      simp only [headOf, tailOf]
      repeat (go_big_quiet_step (fail))
      refine wpQuiet_nil ?_
      rintro _ ⟨X, rfl⟩
      have kk := ka X
      have kz := (HRA.out.later X.below).frozen k
      have N1 := Lib.hid ((HRA.out.later X.below).set (B := upN (b32 N) (b32 a) (k + 1)) k v HB.out)
      have N2 := Lib.hid ((HRB.out.later X.below).kept (grown_of_set X.w ga k (.int .i64 ((v : Nat) : Int))) (fun e => by have := Option.some.inj e; have := HG.out.2.1; omega))
      have N3 := Lib.hid ((HRC.out.later X.below).kept (grown_of_set X.w ga k (.int .i64 ((v : Nat) : Int))) (fun e => by have := Option.some.inj e; have := HG.out.2.2; omega))
      have N4 := Lib.hid ((HQ.out.trans (X.below.mono HQ.out.size)).setCell (p := ⟨ga, k, none⟩) HG.out.1 (.int .i64 ((v : Nat) : Int)))
      clear ka kb kc HRA HRB HRC HQ HB
      go_wp2
      rw [calmPost_normal]
      go_wp2_with fail
      go_roundw
      case rel => exact ⟨k + 1, by have := HLT.out; omega, by simp, N1.out, N2.out, N3.out, N4.out⟩
      case measure => simp [intOf]; omega
    · obtain rfl : k = 32 := by omega
      simp only [Int.cast_ofNat_Int]
      have RF := Lib.hid (RA.congr (B := b32 N) (fun j hj => by unfold upN; rw [if_pos hj]))
      have HQ := Lib.hid Q
      clear RA RB RC Q
      go_wp2_with fail
      refine (number_any N ga ca HNUM.out wr RF.out.cellsAt).mono ?_
      rintro e w5 ⟨rfl, rfl⟩
      go_wp2_with fail
      go_ret
      exact ⟨rfl, HQ.out⟩

set_option maxRecDepth 100000 in
set_option maxHeartbeats 8000000 in
theorem most_ret (a b c : Nat) (ha : a < 4294967296) (hb : b < 4294967296) (hc : c < 4294967296) :
    Ret Tryd.prog 36 #[.int .i64 (a : Int), .int .i64 (b : Int), .int .i64 (c : Int)] (.int .i64 ((majN a b c : Nat) : Int)) := by
  intro w
  have hmx : Tryd.prog.follows .mixedOrders = true := by kernel_rfl
  have HNUM : Hid (majN a b c < 4294967296) := Lib.hid (majN_lt a b c ha hb)
  have HBIT : Hid (∀ i, i < 32 → b32 (majN a b c) i = (b32 a i * b32 b i + b32 a i * b32 c i + b32 b i * b32 c i) % 2) := Lib.hid (fun i hi => majN_bit a b c i)
  generalize majN a b c = N at *
  go_enter Tryd.func36, Tryd.ntmps36
  go_wp2_with fail
  refine (bits_any a ha w).mono ?_
  rintro e w1 ⟨ga, ca, rfl, hga, RA, q⟩
  have Q := Lib.hid q
  have HRA := Lib.hid RA
  clear q RA
  go_wp2_with fail
  refine (bits_any b hb w1).mono ?_
  rintro e w2 ⟨gb, cb, rfl, hgb, RB, q⟩
  have hab : ga < gb := by have := HRA.out.lt; omega
  replace HRA := Lib.hid (HRA.out.later q)
  replace Q := Lib.hid (Q.out.trans (q.mono Q.out.size))
  have HRB := Lib.hid RB
  clear q RB hgb
  go_wp2_with fail
  refine (bits_any c hc w2).mono ?_
  rintro e w3 ⟨gc, cc, rfl, hgc, RC, q⟩
  have hac : ga < gc := by have := HRA.out.lt; omega
  replace HRA := Lib.hid (HRA.out.later q)
  replace HRB := Lib.hid (HRB.out.later q)
  replace Q := Lib.hid (Q.out.trans (q.mono Q.out.size))
  have HRC := Lib.hid RC
  have HG := Lib.hid (And.intro hga (And.intro hab hac))
  have R0 := Lib.hid (HRA.out.congr (B := upN (b32 N) (b32 a) 0) (fun j _ => by unfold upN; rw [if_neg (by omega)]))
  clear q RC hgc HRA hga hab hac
  go_wp2_with fail
  go_loopw [10] (fun i wr => ∃ k : Nat, k ≤ 32 ∧ i = .int .i64 (k : Int) ∧ RowAt wr ga 32 (upN (b32 N) (b32 a) k) ∧ RowAt wr gb 32 (b32 b) ∧ RowAt wr gc 32 (b32 c) ∧ Below w.heap.size w wr) (fun i _ => 32 - (intOf i).toNat)
  case atStart => exact ⟨0, by omega, rfl, R0.out, HRB.out, HRC.out, Q.out⟩
  case round =>
    clear R0 HRB HRC Q
    obtain ⟨k, hk, rfl, RA, RB, RC, Q⟩ := hrel
    by_cases hlt : k < 32
    · have hkI : (k : Int) < 32 := by omega
      have hk0 : (0 : Int) ≤ (k : Int) := by omega
      have hbit := HBIT.out k hlt
      have ua : upN (b32 N) (b32 a) k k = b32 a k := if_neg (by omega)
      have ka : ∀ X : Ext wr, X.w.cell? ⟨ga, k, none⟩ = some (.int .i64 ((b32 a k : Nat) : Int)) := fun X => by rw [← ua]; exact (RA.later X.below).cellsAt k hlt
      have kb : ∀ X : Ext wr, X.w.cell? ⟨gb, k, none⟩ = some (.int .i64 ((b32 b k : Nat) : Int)) := fun X => (RB.later X.below).cellsAt k hlt
      have kc : ∀ X : Ext wr, X.w.cell? ⟨gc, k, none⟩ = some (.int .i64 ((b32 c k : Nat) : Int)) := fun X => (RC.later X.below).cellsAt k hlt
      have h1 := b32_le a k
      have h2 := b32_le b k
      have h3 := b32_le c k
      have HLT := Lib.hid hlt
      have HRA := Lib.hid RA
      have HRB := Lib.hid RB
      have HRC := Lib.hid RC
      have HQ := Lib.hid Q
      clear RA RB RC Q ua hk hlt
      generalize b32 a k = A at *
      generalize b32 b k = B at *
      generalize b32 c k = C at *
      rw [show b32 N k = b32 N k from rfl] at hbit
      have e1 : (A : Int) * (B : Int) = ((A * B : Nat) : Int) := by rw [Int.natCast_mul]
      have e2 : (A : Int) * (C : Int) = ((A * C : Nat) : Int) := by rw [Int.natCast_mul]
      have e3 : (B : Int) * (C : Int) = ((B * C : Nat) : Int) := by rw [Int.natCast_mul]
      have l1 : A * B ≤ 1 := by have := Nat.mul_le_mul h1 h2; omega
      have l2 : A * C ≤ 1 := by have := Nat.mul_le_mul h1 h3; omega
      have l3 : B * C ≤ 1 := by have := Nat.mul_le_mul h2 h3; omega
      generalize B * C = p3 at *
      generalize A * C = p2 at *
      generalize A * B = p1 at *
      have e5 : ((p1 : Nat) : Int) + ((p2 : Nat) : Int) = ((p1 + p2 : Nat) : Int) := by omega
      have e6 : ((p1 + p2 : Nat) : Int) + ((p3 : Nat) : Int) = ((p1 + p2 + p3 : Nat) : Int) := by omega
      have e7 : ((p1 + p2 + p3 : Nat) : Int).tmod 2 = (((p1 + p2 + p3) % 2 : Nat) : Int) := by rw [Int.tmod_eq_emod_of_nonneg (by omega)]; omega
      have l5 : p1 + p2 ≤ 2 := by omega
      have l6 : p1 + p2 + p3 ≤ 3 := by omega
      generalize (p1 + p2 + p3) % 2 = v at *
      generalize p1 + p2 + p3 = s at *
      generalize p1 + p2 = s1 at *
      have AI : (A : Int) ≤ 1 := by omega
      have BI : (B : Int) ≤ 1 := by omega
      have CI : (C : Int) ≤ 1 := by omega
      have p1I : (p1 : Int) ≤ 1 := by omega
      have p2I : (p2 : Int) ≤ 1 := by omega
      have p3I : (p3 : Int) ≤ 1 := by omega
      have s1I : (s1 : Int) ≤ 2 := by omega
      have sI : (s : Int) ≤ 3 := by omega
      have HB : Hid (∀ j, j < 32 → upN (b32 N) (b32 a) (k + 1) j = if j = k then v else upN (b32 N) (b32 a) k j) := Lib.hid (fun j hj => by rw [← hbit]; exact upN_set (b32 N) (b32 a) k j hj)
      clear hbit
      go_wp2_with fail
      refine wp_region_mix (C := Grows wr) [some true, some true, some true, some true, some true, some true, some true, some true, some true, some true, some true, some true, some true, some true, some true, some true, some true, some true, some true, some true, some true, some true, some true, some true, some true, some true, some true, some true, some true, some true, some true, some true, some true, none] hmx (by kernel_rfl) (by kernel_rfl) (grows_refl wr) ?_
      simp only [headOf, tailOf]
      repeat (go_big_quiet_step (fail))
      refine wpQuiet_nil ?_
      rintro _ ⟨X, rfl⟩
      have kk := ka X
      have kz := (HRA.out.later X.below).frozen k
      have N1 := Lib.hid ((HRA.out.later X.below).set (B := upN (b32 N) (b32 a) (k + 1)) k v HB.out)
      have N2 := Lib.hid ((HRB.out.later X.below).kept (grown_of_set X.w ga k (.int .i64 ((v : Nat) : Int))) (fun e => by have := Option.some.inj e; have := HG.out.2.1; omega))
      have N3 := Lib.hid ((HRC.out.later X.below).kept (grown_of_set X.w ga k (.int .i64 ((v : Nat) : Int))) (fun e => by have := Option.some.inj e; have := HG.out.2.2; omega))
      have N4 := Lib.hid ((HQ.out.trans (X.below.mono HQ.out.size)).setCell (p := ⟨ga, k, none⟩) HG.out.1 (.int .i64 ((v : Nat) : Int)))
      clear ka kb kc HRA HRB HRC HQ HB
      go_wp2
      rw [calmPost_normal]
      go_wp2_with fail
      go_roundw
      case rel => exact ⟨k + 1, by have := HLT.out; omega, by simp, N1.out, N2.out, N3.out, N4.out⟩
      case measure => simp [intOf]; omega
    · obtain rfl : k = 32 := by omega
      simp only [Int.cast_ofNat_Int]
      have RF := Lib.hid (RA.congr (B := b32 N) (fun j hj => by unfold upN; rw [if_pos hj]))
      have HQ := Lib.hid Q
      clear RA RB RC Q
      go_wp2_with fail
      refine (number_any N ga ca HNUM.out wr RF.out.cellsAt).mono ?_
      rintro e w5 ⟨rfl, rfl⟩
      go_wp2_with fail
      go_ret
      exact ⟨rfl, HQ.out⟩
end Go.Proofs.YtnjmhcooejcehaaDoor
