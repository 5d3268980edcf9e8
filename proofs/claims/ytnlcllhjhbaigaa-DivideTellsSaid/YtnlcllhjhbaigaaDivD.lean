/- The iterator over a number's bits, the highest one first. For every number. -/
import Derived.Test.YtnlcllhjhbaigaaDivC
namespace Go.Proofs.Ytnlcllhjhbaigaa
open Go Go.RowKit Go.Shelf
attribute [local go_sem] Oper.semAt_some wide_fn

theorem bit_of (N q r : Nat) (hr : r < 64) : limN N q / 2 ^ r % 2 = N / 2 ^ (64 * q + r) % 2 := by
  unfold limN
  have h64 : (18446744073709551616 : Nat) = 2 ^ r * (2 * 2 ^ (63 - r)) := by
    rw [show (18446744073709551616 : Nat) = 2 ^ 64 by decide, ← Nat.pow_succ', ← Nat.pow_add]
    congr 1
    omega
  have e : N / 2 ^ (64 * q + r) = N / 18446744073709551616 ^ q / 2 ^ r := by
    rw [Nat.div_div_eq_div_mul]
    congr 1
    rw [show (18446744073709551616 : Nat) = 2 ^ 64 by decide, ← Nat.pow_mul, ← Nat.pow_add]
  rw [e]
  generalize N / 18446744073709551616 ^ q = M
  rw [h64, Nat.mod_mul_right_div_self, Nat.mod_mul_right_mod]

set_option maxRecDepth 100000 in
set_option maxHeartbeats 4000000 in
theorem bits4_seq (n : Nat) (hn : 1 ≤ n) (Bb Bn B below N : Nat) (hbl : below ≤ 256) (w : World) (h1 : Bb < w.heap.size) (h2 : Bn < w.heap.size) (h3 : B < w.heap.size) (c1 : w.cell? ⟨Bb, 0, none⟩ = some (.int .i64 (below : Int))) (c2 : w.cell? ⟨Bn, 0, none⟩ = some (.pointer (some ⟨B, 0, none⟩)))
    (c3 : ∀ j, j < 4 → w.cell? ⟨B, j, none⟩ = some (.int .u64 (limN N j : Int))) :
    SeqN Fence.wide n Try.prog 55 #[.pointer (some ⟨Bb, 0, none⟩), .pointer (some ⟨Bn, 0, none⟩)] (fun i => #[.int .i64 ((below - 1 - i : Nat) : Int), .int .u64 ((N / 2 ^ (below - 1 - i) % 2 : Nat) : Int)]) (KeepsAt [Bb, Bn, B]) below w := by
  intro l J Jx W hW _ _ hY h0
  have b1 := (hW.cell (p := ⟨Bb, 0, none⟩) h1).trans c1
  have b2 := (hW.cell (p := ⟨Bn, 0, none⟩) h2).trans c2
  have b3 : ∀ j, j < 4 → W.cell? ⟨B, j, none⟩ = some (.int .u64 (limN N j : Int)) := fun j hj => (hW.cell (p := ⟨B, j, none⟩) h3).trans (c3 j hj)
  clear c1 c2 c3
  have hb0 : (0 : Int) ≤ (below : Int) := by omega
  have hb1 : (below : Int) ≤ 256 := by omega
  refine callsIn_of_wp Try.func55 rfl trivial ?_ rfl
  simp only [Try.ntmps55, List.size_toArray, List.length_cons, List.length_nil, Nat.reduceAdd, Nat.reduceSub, Array.replicate_succ, Array.replicate_zero, List.push_toArray, List.append_toArray, List.nil_append, List.cons_append]
  gi_wp2
  gi_loopw [4] (fun q wr => ∃ (z : Int) (i : Nat), q = .int .i64 z ∧ i ≤ below ∧ z = (below : Int) - 1 - (i : Int) ∧ J i wr ∧ KeepsAt [Bb, Bn, B] W wr) (fun q _ => (intOf q + 1).toNat)
  case atStart => exact ⟨_, 0, rfl, Nat.zero_le _, by simp, h0, KeepsAt.refl _ _⟩
  case round =>
    obtain ⟨z, i, rfl, hi, hz, hJs, hnx⟩ := hrel
    have d2 : wr.cell? ⟨Bn, 0, none⟩ = some (.pointer (some ⟨B, 0, none⟩)) := (hnx.cell (p := ⟨Bn, 0, none⟩) (by simp)).trans b2
    clear b1 b2
    by_cases hlt : i < below
    · obtain ⟨p, hp⟩ : ∃ p : Nat, p = below - 1 - i := ⟨_, rfl⟩
      obtain rfl : z = (p : Int) := by omega
      obtain ⟨fn, tmps, assign, body, hy, hR⟩ := hY i wr hlt hJs
      rw [← hp] at hy
      obtain ⟨q, r, hqr, hr⟩ : ∃ q r, p = 64 * q + r ∧ r < 64 := ⟨p / 64, p % 64, by omega, by omega⟩
      have hq : q < 4 := by omega
      have d3 : wr.cell? ⟨B, q, none⟩ = some (.int .u64 (limN N q : Int)) := (hnx.cell (p := ⟨B, q, none⟩) (by simp)).trans (b3 q hq)
      have q1 : ((p : Int)).tdiv 64 = (q : Int) := by rw [Int.tdiv_eq_ediv_of_nonneg (by omega)]; omega
      have q2 : ((p : Int)).tmod 64 = (r : Int) := by rw [Int.tmod_eq_emod_of_nonneg (by omega)]; omega
      have hq0 : (0 : Int) ≤ (q : Int) := by omega
      have hq1 : (q : Int) < 4 := by omega
      have hr0 : (0 : Int) ≤ (r : Int) := by omega
      have hr1 : (r : Int) < 64 := by omega
      have hp0 : (0 : Int) ≤ (p : Int) := by omega
      have hp1 : (p : Int) < 256 := by omega
      have hbit := bit_of N q r hr
      rw [← hqr] at hbit
      have hu := limN_lt N q
      have hand : bits .and .u64 ((limN N q : Int) / 2 ^ r) 1 = ((N / 2 ^ p % 2 : Nat) : Int) := by
        have e1 : (limN N q : Int) / 2 ^ r = ((limN N q / 2 ^ r : Nat) : Int) := by rw [Int.natCast_ediv, Int.natCast_pow]; rfl
        rw [e1, show (1 : Int) = ((1 : Nat) : Int) from rfl, u64_and_nat _ 1 (Nat.lt_of_le_of_lt (Nat.div_le_self _ _) hu) (by decide), Nat.and_one_is_mod, hbit]
      have u0 : (0 : Int) ≤ (limN N q : Int) := by omega
      have u1 : (limN N q : Int) < 18446744073709551616 := by omega
      have HI := Lib.hid hlt
      have HP := Lib.hid hp
      clear hi hz hlt hqr hr hq hbit hu hp b3 hY
      generalize (limN N q : Int) = u at *
      generalize ((N / 2 ^ p % 2 : Nat) : Int) = bt at *
      gi_wp2
      refine hR.mono ?_
      rintro e W3 (⟨rfl, hJ3, hk3⟩ | ⟨rfl, hJx3⟩)
      · gi_wp2
        go_roundw
        case rel => exact ⟨(p : Int) - 1, i + 1, by simp, HI.out, by have := HP.out; have := HI.out; omega, hJ3, hnx.trans hk3⟩
        case measure => first | (simp [intOf]; done) | (simp [intOf]; omega)
      · gi_wp2
        refine bodyPost_ret (results_none rfl _ _ _) rfl ?_
        exact ⟨⟨_, rfl⟩, .inr ⟨i, HI.out, hJx3⟩⟩
    · obtain rfl : i = below := by omega
      obtain rfl : z = -1 := by omega
      have HJ := Lib.hid hJs
      clear hi hz hlt hJs b3 hY
      gi_wp2
      go_end0
      exact ⟨⟨_, rfl⟩, .inl HJ.out⟩
set_option maxHeartbeats 1000000 in
theorem bits4_any (B : Nat) (x : Int) (w : World) :
    Calls Try.prog 38 #[.pointer (some ⟨B, 0, none⟩), .int .i64 x] w fun e w' => e = .returned (.func (.func 55) #[] #[.pointer (some ⟨w.heap.size + 1, 0, none⟩), .pointer (some ⟨w.heap.size, 0, none⟩)]) ∧ w' = (w.alloc (.cells #[.pointer (some ⟨B, 0, none⟩)] 63)).alloc (.cells #[.int .i64 x] 3) := by
  go_enter Try.func38, Try.ntmps38
  go_wp2
  go_ret
  exact ⟨rfl, rfl⟩

set_option maxRecDepth 100000 in
set_option maxHeartbeats 4000000 in
theorem bits8_seq (n : Nat) (hn : 1 ≤ n) (Bb Bn B below N : Nat) (hbl : below ≤ 512) (w : World) (h1 : Bb < w.heap.size) (h2 : Bn < w.heap.size) (h3 : B < w.heap.size) (c1 : w.cell? ⟨Bb, 0, none⟩ = some (.int .i64 (below : Int))) (c2 : w.cell? ⟨Bn, 0, none⟩ = some (.pointer (some ⟨B, 0, none⟩)))
    (c3 : ∀ j, j < 8 → w.cell? ⟨B, j, none⟩ = some (.int .u64 (limN N j : Int))) :
    SeqN Fence.wide n Try.prog 64 #[.pointer (some ⟨Bb, 0, none⟩), .pointer (some ⟨Bn, 0, none⟩)] (fun i => #[.int .i64 ((below - 1 - i : Nat) : Int), .int .u64 ((N / 2 ^ (below - 1 - i) % 2 : Nat) : Int)]) (KeepsAt [Bb, Bn, B]) below w := by
  intro l J Jx W hW _ _ hY h0
  have b1 := (hW.cell (p := ⟨Bb, 0, none⟩) h1).trans c1
  have b2 := (hW.cell (p := ⟨Bn, 0, none⟩) h2).trans c2
  have b3 : ∀ j, j < 8 → W.cell? ⟨B, j, none⟩ = some (.int .u64 (limN N j : Int)) := fun j hj => (hW.cell (p := ⟨B, j, none⟩) h3).trans (c3 j hj)
  clear c1 c2 c3
  have hb0 : (0 : Int) ≤ (below : Int) := by omega
  have hb1 : (below : Int) ≤ 512 := by omega
  refine callsIn_of_wp Try.func64 rfl trivial ?_ rfl
  simp only [Try.ntmps64, List.size_toArray, List.length_cons, List.length_nil, Nat.reduceAdd, Nat.reduceSub, Array.replicate_succ, Array.replicate_zero, List.push_toArray, List.append_toArray, List.nil_append, List.cons_append]
  gi_wp2
  gi_loopw [4] (fun q wr => ∃ (z : Int) (i : Nat), q = .int .i64 z ∧ i ≤ below ∧ z = (below : Int) - 1 - (i : Int) ∧ J i wr ∧ KeepsAt [Bb, Bn, B] W wr) (fun q _ => (intOf q + 1).toNat)
  case atStart => exact ⟨_, 0, rfl, Nat.zero_le _, by simp, h0, KeepsAt.refl _ _⟩
  case round =>
    obtain ⟨z, i, rfl, hi, hz, hJs, hnx⟩ := hrel
    have d2 : wr.cell? ⟨Bn, 0, none⟩ = some (.pointer (some ⟨B, 0, none⟩)) := (hnx.cell (p := ⟨Bn, 0, none⟩) (by simp)).trans b2
    clear b1 b2
    by_cases hlt : i < below
    · obtain ⟨p, hp⟩ : ∃ p : Nat, p = below - 1 - i := ⟨_, rfl⟩
      obtain rfl : z = (p : Int) := by omega
      obtain ⟨fn, tmps, assign, body, hy, hR⟩ := hY i wr hlt hJs
      rw [← hp] at hy
      obtain ⟨q, r, hqr, hr⟩ : ∃ q r, p = 64 * q + r ∧ r < 64 := ⟨p / 64, p % 64, by omega, by omega⟩
      have hq : q < 8 := by omega
      have d3 : wr.cell? ⟨B, q, none⟩ = some (.int .u64 (limN N q : Int)) := (hnx.cell (p := ⟨B, q, none⟩) (by simp)).trans (b3 q hq)
      have q1 : ((p : Int)).tdiv 64 = (q : Int) := by rw [Int.tdiv_eq_ediv_of_nonneg (by omega)]; omega
      have q2 : ((p : Int)).tmod 64 = (r : Int) := by rw [Int.tmod_eq_emod_of_nonneg (by omega)]; omega
      have hq0 : (0 : Int) ≤ (q : Int) := by omega
      have hq1 : (q : Int) < 8 := by omega
      have hr0 : (0 : Int) ≤ (r : Int) := by omega
      have hr1 : (r : Int) < 64 := by omega
      have hp0 : (0 : Int) ≤ (p : Int) := by omega
      have hp1 : (p : Int) < 512 := by omega
      have hbit := bit_of N q r hr
      rw [← hqr] at hbit
      have hu := limN_lt N q
      have hand : bits .and .u64 ((limN N q : Int) / 2 ^ r) 1 = ((N / 2 ^ p % 2 : Nat) : Int) := by
        have e1 : (limN N q : Int) / 2 ^ r = ((limN N q / 2 ^ r : Nat) : Int) := by rw [Int.natCast_ediv, Int.natCast_pow]; rfl
        rw [e1, show (1 : Int) = ((1 : Nat) : Int) from rfl, u64_and_nat _ 1 (Nat.lt_of_le_of_lt (Nat.div_le_self _ _) hu) (by decide), Nat.and_one_is_mod, hbit]
      have u0 : (0 : Int) ≤ (limN N q : Int) := by omega
      have u1 : (limN N q : Int) < 18446744073709551616 := by omega
      have HI := Lib.hid hlt
      have HP := Lib.hid hp
      clear hi hz hlt hqr hr hq hbit hu hp b3 hY
      generalize (limN N q : Int) = u at *
      generalize ((N / 2 ^ p % 2 : Nat) : Int) = bt at *
      gi_wp2
      refine hR.mono ?_
      rintro e W3 (⟨rfl, hJ3, hk3⟩ | ⟨rfl, hJx3⟩)
      · gi_wp2
        go_roundw
        case rel => exact ⟨(p : Int) - 1, i + 1, by simp, HI.out, by have := HP.out; have := HI.out; omega, hJ3, hnx.trans hk3⟩
        case measure => first | (simp [intOf]; done) | (simp [intOf]; omega)
      · gi_wp2
        refine bodyPost_ret (results_none rfl _ _ _) rfl ?_
        exact ⟨⟨_, rfl⟩, .inr ⟨i, HI.out, hJx3⟩⟩
    · obtain rfl : i = below := by omega
      obtain rfl : z = -1 := by omega
      have HJ := Lib.hid hJs
      clear hi hz hlt hJs b3 hY
      gi_wp2
      go_end0
      exact ⟨⟨_, rfl⟩, .inl HJ.out⟩
set_option maxHeartbeats 1000000 in
theorem bits8_any (B : Nat) (x : Int) (w : World) :
    Calls Try.prog 49 #[.pointer (some ⟨B, 0, none⟩), .int .i64 x] w fun e w' => e = .returned (.func (.func 64) #[] #[.pointer (some ⟨w.heap.size + 1, 0, none⟩), .pointer (some ⟨w.heap.size, 0, none⟩)]) ∧ w' = (w.alloc (.cells #[.pointer (some ⟨B, 0, none⟩)] 74)).alloc (.cells #[.int .i64 x] 3) := by
  go_enter Try.func49, Try.ntmps49
  go_wp2
  go_ret
  exact ⟨rfl, rfl⟩
end Go.Proofs.Ytnlcllhjhbaigaa
