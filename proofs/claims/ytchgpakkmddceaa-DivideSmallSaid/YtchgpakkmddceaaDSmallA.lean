/- Small numbers, divided. -/
import Derived.Test.YtchgpakkmddceaaDivAwake
namespace Go.Proofs.Ytchgpakkmddceaa
open Go Go.RowKit
attribute [local go_sem] Oper.semAt_some Grows wide_fn eq4

set_option maxRecDepth 100000 in
set_option maxHeartbeats 4000000 in
theorem small_walkA (m n k a0 b0 z0 b q1 r1 q2 r2 s1 M s2 Y : Int) (KN : Nat) (P : Nat → Int) (zA zB zC zD zX zY zE zG zZ zH zJ zU zV zT : Nat → Int) (ha : 0 ≤ a0 ∧ a0 < 1099511627776) (hb0 : 0 ≤ b0 ∧ b0 < 1048576) (hz : 0 ≤ z0 ∧ z0 < 1048576) (hKN : KN < 6) (hY : 0 ≤ Y ∧ Y < 1000) (hb : b0 = 524288 ∧ b = 7) (hq1 : (a0 - 549755813888).tdiv b = q1) (hr1 : (a0 - 549755813888).tmod b = r1) (hq2 : a0.tdiv (1 + b0) = q2) (hr2 : a0.tmod (1 + b0) = r2) (hs1 : (a0 + (1 + b0)).tmod (1 + z0) = s1) (hM : a0 * (1 + b0) = M) (hMb : 0 ≤ M ∧ M < 2305843009213693952) (hs2 : M.tmod (1 + z0) = s2) (hbd : (-1099511627776 ≤ q1 ∧ q1 ≤ 1099511627776) ∧ (-1099511627776 ≤ r1 ∧ r1 ≤ 1099511627776) ∧ (0 ≤ q2 ∧ q2 ≤ 1099511627776) ∧ (0 ≤ r2 ∧ r2 ≤ 1099511627776) ∧ (0 ≤ s1 ∧ s1 ≤ 1099511627776) ∧ (0 ≤ s2 ∧ s2 ≤ 1099511627776)) (hP0 : P 0 = 1) (hPs : ∀ j, j < 5 → P j * Y = P (j + 1)) (hPb : ∀ j, j ≤ 5 → 0 ≤ P j ∧ P j ≤ 1000000000000000) (g1 : Ret Try.prog 28 #[.int .i64 m, .int .i64 1099511627776] (.int .i64 a0)) (g2 : Ret Try.prog 28 #[.int .i64 n, .int .i64 1048576] (.int .i64 b0)) (g3 : Ret Try.prog 28 #[.int .i64 k, .int .i64 1048576] (.int .i64 z0)) (g4 : Ret Try.prog 28 #[.int .i64 k, .int .i64 6] (.int .i64 (KN : Int))) (g5 : Ret Try.prog 28 #[.int .i64 n, .int .i64 1000] (.int .i64 Y)) (o1 : Ret Try.prog 27 #[.int .i64 (a0 - 549755813888)] (.agg #[.int .u64 (zA 0), .int .u64 (zA 1), .int .u64 (zA 2), .int .u64 (zA 3)])) (o2 : Ret Try.prog 27 #[.int .i64 b] (.agg #[.int .u64 (zB 0), .int .u64 (zB 1), .int .u64 (zB 2), .int .u64 (zB 3)])) (c1 : Ret Try.prog 14 #[.agg #[.int .u64 (zA 0), .int .u64 (zA 1), .int .u64 (zA 2), .int .u64 (zA 3)], .agg #[.int .u64 (zB 0), .int .u64 (zB 1), .int .u64 (zB 2), .int .u64 (zB 3)]] (.agg #[.int .u64 (zC 0), .int .u64 (zC 1), .int .u64 (zC 2), .int .u64 (zC 3)])) (o3 : Ret Try.prog 27 #[.int .i64 q1] (.agg #[.int .u64 (zC 0), .int .u64 (zC 1), .int .u64 (zC 2), .int .u64 (zC 3)])) (c2 : Ret Try.prog 16 #[.agg #[.int .u64 (zA 0), .int .u64 (zA 1), .int .u64 (zA 2), .int .u64 (zA 3)], .agg #[.int .u64 (zB 0), .int .u64 (zB 1), .int .u64 (zB 2), .int .u64 (zB 3)]] (.agg #[.int .u64 (zD 0), .int .u64 (zD 1), .int .u64 (zD 2), .int .u64 (zD 3)])) (o4 : Ret Try.prog 27 #[.int .i64 r1] (.agg #[.int .u64 (zD 0), .int .u64 (zD 1), .int .u64 (zD 2), .int .u64 (zD 3)])) (o5 : Ret Try.prog 27 #[.int .i64 a0] (.agg #[.int .u64 (zX 0), .int .u64 (zX 1), .int .u64 (zX 2), .int .u64 (zX 3)])) (o6 : Ret Try.prog 27 #[.int .i64 (1 + b0)] (.agg #[.int .u64 (zY 0), .int .u64 (zY 1), .int .u64 (zY 2), .int .u64 (zY 3)])) (c3 : Ret Try.prog 10 #[.agg #[.int .u64 (zX 0), .int .u64 (zX 1), .int .u64 (zX 2), .int .u64 (zX 3)], .agg #[.int .u64 (zY 0), .int .u64 (zY 1), .int .u64 (zY 2), .int .u64 (zY 3)]] (.agg #[.int .u64 (zE 0), .int .u64 (zE 1), .int .u64 (zE 2), .int .u64 (zE 3)])) (o7 : Ret Try.prog 27 #[.int .i64 q2] (.agg #[.int .u64 (zE 0), .int .u64 (zE 1), .int .u64 (zE 2), .int .u64 (zE 3)])) (c4 : Ret Try.prog 12 #[.agg #[.int .u64 (zX 0), .int .u64 (zX 1), .int .u64 (zX 2), .int .u64 (zX 3)], .agg #[.int .u64 (zY 0), .int .u64 (zY 1), .int .u64 (zY 2), .int .u64 (zY 3)]] (.agg #[.int .u64 (zG 0), .int .u64 (zG 1), .int .u64 (zG 2), .int .u64 (zG 3)])) (o8 : Ret Try.prog 27 #[.int .i64 r2] (.agg #[.int .u64 (zG 0), .int .u64 (zG 1), .int .u64 (zG 2), .int .u64 (zG 3)])) (o9 : Ret Try.prog 27 #[.int .i64 (1 + z0)] (.agg #[.int .u64 (zZ 0), .int .u64 (zZ 1), .int .u64 (zZ 2), .int .u64 (zZ 3)])) (c5 : Ret Try.prog 18 #[.agg #[.int .u64 (zX 0), .int .u64 (zX 1), .int .u64 (zX 2), .int .u64 (zX 3)], .agg #[.int .u64 (zY 0), .int .u64 (zY 1), .int .u64 (zY 2), .int .u64 (zY 3)], .agg #[.int .u64 (zZ 0), .int .u64 (zZ 1), .int .u64 (zZ 2), .int .u64 (zZ 3)]] (.agg #[.int .u64 (zH 0), .int .u64 (zH 1), .int .u64 (zH 2), .int .u64 (zH 3)])) (o10 : Ret Try.prog 27 #[.int .i64 s1] (.agg #[.int .u64 (zH 0), .int .u64 (zH 1), .int .u64 (zH 2), .int .u64 (zH 3)])) (c6 : Ret Try.prog 20 #[.agg #[.int .u64 (zX 0), .int .u64 (zX 1), .int .u64 (zX 2), .int .u64 (zX 3)], .agg #[.int .u64 (zY 0), .int .u64 (zY 1), .int .u64 (zY 2), .int .u64 (zY 3)], .agg #[.int .u64 (zZ 0), .int .u64 (zZ 1), .int .u64 (zZ 2), .int .u64 (zZ 3)]] (.agg #[.int .u64 (zJ 0), .int .u64 (zJ 1), .int .u64 (zJ 2), .int .u64 (zJ 3)])) (o11 : Ret Try.prog 27 #[.int .i64 s2] (.agg #[.int .u64 (zJ 0), .int .u64 (zJ 1), .int .u64 (zJ 2), .int .u64 (zJ 3)])) (o12 : Ret Try.prog 27 #[.int .i64 Y] (.agg #[.int .u64 (zU 0), .int .u64 (zU 1), .int .u64 (zU 2), .int .u64 (zU 3)])) (o13 : Ret Try.prog 27 #[.int .i64 (KN : Int)] (.agg #[.int .u64 (zV 0), .int .u64 (zV 1), .int .u64 (zV 2), .int .u64 (zV 3)])) (c7 : Ret Try.prog 22 #[.agg #[.int .u64 (zU 0), .int .u64 (zU 1), .int .u64 (zU 2), .int .u64 (zU 3)], .agg #[.int .u64 (zV 0), .int .u64 (zV 1), .int .u64 (zV 2), .int .u64 (zV 3)]] (.agg #[.int .u64 (zT 0), .int .u64 (zT 1), .int .u64 (zT 2), .int .u64 (zT 3)])) (o14 : Ret Try.prog 27 #[.int .i64 (P KN)] (.agg #[.int .u64 (zT 0), .int .u64 (zT 1), .int .u64 (zT 2), .int .u64 (zT 3)])) :
    Ret Try.prog 7 #[.int .i64 m, .int .i64 n, .int .i64 k] (.bool true) := by
  intro w
  have k0 := awake_ret
  obtain ⟨ha1, ha2⟩ := ha
  obtain ⟨hb1, hb2⟩ := hb0
  obtain ⟨hz1, hz2⟩ := hz
  obtain ⟨hY1, hY2⟩ := hY
  obtain ⟨hM1, hM2⟩ := hMb
  have HB := Lib.hid hb
  have HD := Lib.hid hbd
  have HPs := Lib.hid hPs
  have HPb := Lib.hid hPb
  have HE := Lib.hid (And.intro hq1 (And.intro hr1 (And.intro hq2 (And.intro hr2 (And.intro hs1 (And.intro hM hs2))))))
  clear hb hbd hPs hPb hq1 hr1 hq2 hr2 hs1 hM hs2
  have Hg1 := Lib.hid g1
  have Hg2 := Lib.hid g2
  have Hg3 := Lib.hid g3
  have Hg4 := Lib.hid g4
  have Hg5 := Lib.hid g5
  have Ho1 := Lib.hid o1
  have Ho2 := Lib.hid o2
  have Hc1 := Lib.hid c1
  have Ho3 := Lib.hid o3
  have Hc2 := Lib.hid c2
  have Ho4 := Lib.hid o4
  have Ho5 := Lib.hid o5
  have Ho6 := Lib.hid o6
  have Hc3 := Lib.hid c3
  have Ho7 := Lib.hid o7
  have Hc4 := Lib.hid c4
  have Ho8 := Lib.hid o8
  have Ho9 := Lib.hid o9
  have Hc5 := Lib.hid c5
  have Ho10 := Lib.hid o10
  have Hc6 := Lib.hid c6
  have Ho11 := Lib.hid o11
  have Ho12 := Lib.hid o12
  have Ho13 := Lib.hid o13
  have Hc7 := Lib.hid c7
  have Ho14 := Lib.hid o14
  have Hk0 := Lib.hid k0
  clear g1 g2 g3 g4 g5 o1 o2 c1 o3 c2 o4 o5 o6 c3 o7 c4 o8 o9 c5 o10 c6 o11 o12 o13 c7 o14 k0
  go_enter Try.func7, Try.ntmps7
  go_wp2_with fail
  refine (Hk0.out _).mono ?_
  rintro e v1 ⟨rfl, q⟩
  have Q := q
  clear q
  go_wp2_with fail
  refine (Hg1.out _).mono ?_
  rintro e v2 ⟨rfl, q⟩
  have Q := Q.trans (q.mono Q.size)
  clear q
  go_wp2_with fail
  refine (Hg2.out _).mono ?_
  rintro e v3 ⟨rfl, q⟩
  have Q := Q.trans (q.mono Q.size)
  clear q
  obtain ⟨hb0, rfl⟩ := HB.out
  clear HB
  have hb3 : b0 - 524288 = 0 := by omega
  have HB0 := Lib.hid hb0
  clear hb0
  go_wp2_with fail
  refine (Hg1.out _).mono ?_
  rintro e v4 ⟨rfl, q⟩
  have Q := Q.trans (q.mono Q.size)
  clear q
  go_wp2_with fail
  refine (Hg2.out _).mono ?_
  rintro e v5 ⟨rfl, q⟩
  have Q := Q.trans (q.mono Q.size)
  clear q
  go_wp2_with fail
  refine (Hg3.out _).mono ?_
  rintro e v6 ⟨rfl, q⟩
  have Q := Q.trans (q.mono Q.size)
  clear q
  go_wp2_with fail
  have HQ := Lib.hid Q
  clear Q
  go_loopw [14, 15] (fun p i wr => ∃ j : Nat, j ≤ KN ∧ i = .int .i64 (j : Int) ∧ p = .int .i64 (P j) ∧ Below w.heap.size w wr) (fun _ i _ => 6 - (intOf i).toNat)
  case atStart => exact ⟨0, by omega, rfl, by rw [hP0], HQ.out⟩
  case round =>
    obtain ⟨j, hj, rfl, rfl, hB⟩ := hrel
    have hK6 : (KN : Int) < 6 := by omega
    by_cases hlt : j < KN
    · have hjI : (j : Int) < (KN : Int) := by omega
      have hm := HPs.out j (by omega)
      have hp1 := HPb.out j (by omega)
      have hp2 := HPb.out (j + 1) (by omega)
      obtain ⟨p1, p2⟩ := hp1
      obtain ⟨p3, p4⟩ := hp2
      have HJ := Lib.hid hlt
      clear hlt hj
      have HBB := Lib.hid hB
      clear hB HQ
      go_wp2_with fail
      refine (Hg4.out _).mono ?_
      rintro e u1 ⟨rfl, qa⟩
      go_wp2_with fail
      refine (Hg5.out _).mono ?_
      rintro e u2 ⟨rfl, qb⟩
      have HX := Lib.hid ((HBB.out.trans (qa.mono HBB.out.size)).trans (qb.mono (Nat.le_trans HBB.out.size qa.size)))
      clear HBB qa qb
      go_wp2
      go_roundw
      case rel => exact ⟨j + 1, HJ.out, by simp, by simp, HX.out⟩
      case measure => have := HJ.out; simp [intOf]; omega
    · obtain rfl : j = KN := by omega
      clear hj hlt HQ
      have Q := hB
      clear hB
      go_wp2_with fail
      refine (Hg4.out _).mono ?_
      rintro e u1 ⟨rfl, qa⟩
      have Q := Q.trans (qa.mono Q.size)
      clear qa
      obtain ⟨hq1, hr1, hq2, hr2, hs1, hM, hs2⟩ := HE.out
      obtain ⟨⟨d1, d2⟩, ⟨d3, d4⟩, ⟨d5, d6⟩, ⟨d7, d8⟩, ⟨d9, d10⟩, d11, d12⟩ := HD.out
      obtain ⟨p1, p2⟩ := HPb.out j (by omega)
      have hj0 : (0 : Int) ≤ (j : Int) := by omega
      have hx0 : ¬ (1 + b0 = 0) := by omega
      have hx1 : ¬ (1 + z0 = 0) := by omega
      go_wp2_with fail
      have HQ := Lib.hid Q
      clear Q
      try simp only [List.append]
      refine wp_region_quick (C := Grows u1) (by kernel_rfl) (by kernel_rfl) (by kernel_rfl) (grows_refl u1) ?_
      repeat (go_big_quiet_step (first | (with_reducible exact Ret.at Ho1.out _) | (with_reducible exact Ret.at Ho2.out _) | (with_reducible exact Ret.at Hc1.out _) | (with_reducible exact Ret.at Ho3.out _) | (with_reducible exact Ret.at Hc2.out _) | (with_reducible exact Ret.at Ho4.out _) | (with_reducible exact Ret.at Ho5.out _) | (with_reducible exact Ret.at Ho6.out _) | (with_reducible exact Ret.at Hc3.out _) | (with_reducible exact Ret.at Ho7.out _) | (with_reducible exact Ret.at Hc4.out _) | (with_reducible exact Ret.at Ho8.out _) | (with_reducible exact Ret.at Ho9.out _) | (with_reducible exact Ret.at Hc5.out _) | (with_reducible exact Ret.at Ho10.out _) | (with_reducible exact Ret.at Hc6.out _) | (with_reducible exact Ret.at Ho11.out _) | (with_reducible exact Ret.at Ho12.out _) | (with_reducible exact Ret.at Ho13.out _) | (with_reducible exact Ret.at Hc7.out _) | (with_reducible exact Ret.at Ho14.out _) | (with_reducible exact Ret.at Hg4.out _) | (with_reducible exact Ret.at Hg5.out _)))
      refine wpQuiet_nil ?_
      rintro _ ⟨x, rfl⟩
      go_wp2
      go_ret
      exact ⟨rfl, HQ.out.trans (x.below.mono HQ.out.size)⟩
end Go.Proofs.Ytchgpakkmddceaa
