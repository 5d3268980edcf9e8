/- Unlike texts have unlike pads; what is put behind a text: the walk. -/
import Derived.Test.YtcjdcalfndicbaaDoorKecQ
namespace Go.Proofs.YtcjdcalfndicbaaDoor
open Go Go.RowKit Go.Shelf
attribute [local go_sem] Oper.semAt_some Grows wide_fn field0

/-- The sum of the first k bytes of what is put behind. -/
def psum (m : Nat) : Nat → Nat
  | 0 => 0
  | k + 1 => psum m k + pcN m k
theorem psum_le (m : Nat) : ∀ k, psum m k ≤ 256 * k
  | 0 => Nat.le_refl _
  | k + 1 => by have := psum_le m k; have := pcN_lt m k; show psum m k + pcN m k ≤ _; omega
theorem psum_low (m : Nat) : ∀ k, 0 < k → k ≤ m → psum m k = 1
  | 1, _, h => by show 0 + pcN m 0 = 1; unfold pcN; rw [if_pos rfl, if_neg (by omega)]
  | k + 2, _, h => by
    show psum m (k + 1) + pcN m (k + 1) = 1
    rw [psum_low m (k + 1) (by omega) (by omega)]
    unfold pcN
    rw [if_neg (by omega), if_neg (by omega)]
theorem psum_all (m : Nat) : psum m (m + 1) = 129 := by
  show psum m m + pcN m m = 129
  rcases Nat.eq_zero_or_pos m with rfl | h
  · rfl
  · rw [psum_low m m h (Nat.le_refl _)]
    unfold pcN
    rw [if_neg (by omega), if_pos rfl]

set_option maxRecDepth 100000 in
set_option maxHeartbeats 4000000 in
theorem pads_walk (s more x y p q : ByteArray) (n l m : Nat) (hx1 : s.size ≤ 1000 → x = s) (hx2 : 1000 < s.size → s.extract 0 1000 = x) (hy1 : (more.size : Int) ≤ 300 → x ++ more = y) (hy2 : 300 ≤ (more.size : Int) → x ++ more.extract 0 300 = y) (hsm : more.size ≤ 140737488355328) (hss : s.size ≤ 140737488355328) (hxs : x.size = n) (hn : n ≤ 1000)
    (hp : p.size = n + m + 1) (hm : m < 136) (hpq : p = q ↔ x = y) (hb : ∀ j, ∀ h : n + j < p.size, ((p[n + j]'h).toNat : Int) = (pcN m j : Int)) (b0 bl : Int) (hb0 : ∀ h : n < p.size, ((p[n]'h).toNat : Int) = b0) (hbm : ∀ h : n + m < p.size, ((p[n + m]'h).toNat : Int) = bl) (hodd : b0.tmod 2 = 1) (hbl : 128 ≤ bl ∧ bl < 256) (hb0' : 0 ≤ b0 ∧ b0 < 256)
    (h1 : Ret Tryd.prog 16 #[.string x] (.string p)) (h2 : Ret Tryd.prog 16 #[.string y] (.string q)) :
    RetT Tryd.prog 5 #[.string s, .string more] (.bool true) := by
  intro w HT
  have H0 := Lib.hid awake_ret
  have H1 := Lib.hid h1
  have H2 := Lib.hid h2
  have HPS := Lib.hid (psum_all m)
  have HPL := Lib.hid (psum_le m)
  have HX1 := Lib.hid hx1
  have HX2 := Lib.hid hx2
  have HB := Lib.hid hb
  have HY1 := Lib.hid hy1
  have HY2 := Lib.hid hy2
  have hEE : (p.toList == q.toList) = (x.toList == y.toList) := by
    by_cases h : x = y
    · rw [beq_of h, beq_of (hpq.2 h)]
    · rw [beq_of_ne h, beq_of_ne (fun e => h (hpq.1 e))]
  clear h1 h2 hx1 hx2 hb hy1 hy2 hpq
  have hsI : (s.size : Int) ≤ 140737488355328 := by omega
  have hmI : (more.size : Int) ≤ 140737488355328 := by omega
  have hpI : (p.size : Int) = (n : Int) + (m : Int) + 1 := by omega
  have hxI : (x.size : Int) = (n : Int) := by omega
  have hnI : (n : Int) ≤ 1000 := by omega
  have hm6 : (m : Int) < 136 := by omega
  go_enter Tryd.func5, Tryd.ntmps5
  go_wp2_with fail
  refine (H0.out _ HT).mono ?_
  rintro e w1 ⟨rfl, Q⟩
  clear H0 HT
  by_cases hs : 1000 < s.size
  · have hsc : (1000 : Int) < (s.size : Int) := by omega
    have hcut := HX2.out hs
    clear HX1 HX2
    go_wp2_with fail
    · skip
      rw [HY2.out (by omega)]
      refine (H1.out _).mono ?_
      rintro e w2 ⟨rfl, q1⟩
      have Q := Q.trans (q1.mono Q.size)
      clear q1 H1
      go_wp2_with fail
      refine (H2.out _).mono ?_
      rintro e w3 ⟨rfl, q2⟩
      have Q := Q.trans (q2.mono Q.size)
      clear q2 H2
      go_wp2
      go_loopw [10, 11] (fun t i wr => ∃ k : Nat, k ≤ m + 1 ∧ t = .int .i64 ((psum m k : Nat) : Int) ∧ i = .int .i64 ((n + k : Nat) : Int) ∧ Below w.heap.size w wr) (fun _ i _ => n + m + 1 - (intOf i).toNat)
      case atStart => exact ⟨0, by omega, rfl, rfl, Q⟩
      case round =>
        clear Q
        obtain ⟨k, hk, rfl, rfl, Q⟩ := hrel
        have HQ := Lib.hid Q
        clear Q
        by_cases hlt : k < m + 1
        · have hbk := HB.out k
          have hps := HPL.out k
          have hpc := pcN_lt m k
          have HS : Hid (((psum m k : Nat) : Int) + ((pcN m k : Nat) : Int) = ((psum m (k + 1) : Nat) : Int)) := Lib.hid rfl
          have hjI : ((n + k : Nat) : Int) < (n : Int) + (m : Int) + 1 := by omega
          have hjN : n + k < p.size := by omega
          have HK := Lib.hid hlt
          have HJ : Hid (((n + k : Nat) : Int) + 1 = ((n + (k + 1) : Nat) : Int)) := Lib.hid (by omega)
          have hsI2 : ((psum m k : Nat) : Int) < 40000 := by omega
          have hpI2 : ((pcN m k : Nat) : Int) < 256 := by omega
          clear hlt hk hps hpc HPS HPL HB
          generalize psum m k = sm at *
          generalize pcN m k = pv at *
          generalize n + k = j at *
          go_wp2
          go_roundw
          case rel => exact ⟨k + 1, HK.out, by rw [HS.out], by rw [HJ.out], HQ.out⟩
          case measure => simp [intOf]; omega
        · obtain rfl : k = m + 1 := by omega
          rw [HPS.out]
          have hi : ((n + (m + 1) : Nat) : Int) = (n : Int) + (m : Int) + 1 := by omega
          rw [hi]
          clear hlt hk HPS HPL HB hi
          obtain ⟨hbl1, hbl2⟩ := hbl
          obtain ⟨hb01, hb02⟩ := hb0'
          go_wp2
          go_ret
          exact ⟨rfl, HQ.out⟩
    · skip
      rw [HY1.out (by omega)]
      refine (H1.out _).mono ?_
      rintro e w2 ⟨rfl, q1⟩
      have Q := Q.trans (q1.mono Q.size)
      clear q1 H1
      go_wp2_with fail
      refine (H2.out _).mono ?_
      rintro e w3 ⟨rfl, q2⟩
      have Q := Q.trans (q2.mono Q.size)
      clear q2 H2
      go_wp2
      go_loopw [10, 11] (fun t i wr => ∃ k : Nat, k ≤ m + 1 ∧ t = .int .i64 ((psum m k : Nat) : Int) ∧ i = .int .i64 ((n + k : Nat) : Int) ∧ Below w.heap.size w wr) (fun _ i _ => n + m + 1 - (intOf i).toNat)
      case atStart => exact ⟨0, by omega, rfl, rfl, Q⟩
      case round =>
        clear Q
        obtain ⟨k, hk, rfl, rfl, Q⟩ := hrel
        have HQ := Lib.hid Q
        clear Q
        by_cases hlt : k < m + 1
        · have hbk := HB.out k
          have hps := HPL.out k
          have hpc := pcN_lt m k
          have HS : Hid (((psum m k : Nat) : Int) + ((pcN m k : Nat) : Int) = ((psum m (k + 1) : Nat) : Int)) := Lib.hid rfl
          have hjI : ((n + k : Nat) : Int) < (n : Int) + (m : Int) + 1 := by omega
          have hjN : n + k < p.size := by omega
          have HK := Lib.hid hlt
          have HJ : Hid (((n + k : Nat) : Int) + 1 = ((n + (k + 1) : Nat) : Int)) := Lib.hid (by omega)
          have hsI2 : ((psum m k : Nat) : Int) < 40000 := by omega
          have hpI2 : ((pcN m k : Nat) : Int) < 256 := by omega
          clear hlt hk hps hpc HPS HPL HB
          generalize psum m k = sm at *
          generalize pcN m k = pv at *
          generalize n + k = j at *
          go_wp2
          go_roundw
          case rel => exact ⟨k + 1, HK.out, by rw [HS.out], by rw [HJ.out], HQ.out⟩
          case measure => simp [intOf]; omega
        · obtain rfl : k = m + 1 := by omega
          rw [HPS.out]
          have hi : ((n + (m + 1) : Nat) : Int) = (n : Int) + (m : Int) + 1 := by omega
          rw [hi]
          clear hlt hk HPS HPL HB hi
          obtain ⟨hbl1, hbl2⟩ := hbl
          obtain ⟨hb01, hb02⟩ := hb0'
          go_wp2
          go_ret
          exact ⟨rfl, HQ.out⟩
  · obtain rfl : x = s := HX1.out (by omega)
    have hsc : ¬ (1000 : Int) < (n : Int) := by omega
    clear HX1 HX2
    go_wp2_with fail
    · skip
      rw [HY2.out (by omega)]
      refine (H1.out _).mono ?_
      rintro e w2 ⟨rfl, q1⟩
      have Q := Q.trans (q1.mono Q.size)
      clear q1 H1
      go_wp2_with fail
      refine (H2.out _).mono ?_
      rintro e w3 ⟨rfl, q2⟩
      have Q := Q.trans (q2.mono Q.size)
      clear q2 H2
      go_wp2
      go_loopw [10, 11] (fun t i wr => ∃ k : Nat, k ≤ m + 1 ∧ t = .int .i64 ((psum m k : Nat) : Int) ∧ i = .int .i64 ((n + k : Nat) : Int) ∧ Below w.heap.size w wr) (fun _ i _ => n + m + 1 - (intOf i).toNat)
      case atStart => exact ⟨0, by omega, rfl, rfl, Q⟩
      case round =>
        clear Q
        obtain ⟨k, hk, rfl, rfl, Q⟩ := hrel
        have HQ := Lib.hid Q
        clear Q
        by_cases hlt : k < m + 1
        · have hbk := HB.out k
          have hps := HPL.out k
          have hpc := pcN_lt m k
          have HS : Hid (((psum m k : Nat) : Int) + ((pcN m k : Nat) : Int) = ((psum m (k + 1) : Nat) : Int)) := Lib.hid rfl
          have hjI : ((n + k : Nat) : Int) < (n : Int) + (m : Int) + 1 := by omega
          have hjN : n + k < p.size := by omega
          have HK := Lib.hid hlt
          have HJ : Hid (((n + k : Nat) : Int) + 1 = ((n + (k + 1) : Nat) : Int)) := Lib.hid (by omega)
          have hsI2 : ((psum m k : Nat) : Int) < 40000 := by omega
          have hpI2 : ((pcN m k : Nat) : Int) < 256 := by omega
          clear hlt hk hps hpc HPS HPL HB
          generalize psum m k = sm at *
          generalize pcN m k = pv at *
          generalize n + k = j at *
          go_wp2
          go_roundw
          case rel => exact ⟨k + 1, HK.out, by rw [HS.out], by rw [HJ.out], HQ.out⟩
          case measure => simp [intOf]; omega
        · obtain rfl : k = m + 1 := by omega
          rw [HPS.out]
          have hi : ((n + (m + 1) : Nat) : Int) = (n : Int) + (m : Int) + 1 := by omega
          rw [hi]
          clear hlt hk HPS HPL HB hi
          obtain ⟨hbl1, hbl2⟩ := hbl
          obtain ⟨hb01, hb02⟩ := hb0'
          go_wp2
          go_ret
          exact ⟨rfl, HQ.out⟩
    · skip
      rw [HY1.out (by omega)]
      refine (H1.out _).mono ?_
      rintro e w2 ⟨rfl, q1⟩
      have Q := Q.trans (q1.mono Q.size)
      clear q1 H1
      go_wp2_with fail
      refine (H2.out _).mono ?_
      rintro e w3 ⟨rfl, q2⟩
      have Q := Q.trans (q2.mono Q.size)
      clear q2 H2
      go_wp2
      go_loopw [10, 11] (fun t i wr => ∃ k : Nat, k ≤ m + 1 ∧ t = .int .i64 ((psum m k : Nat) : Int) ∧ i = .int .i64 ((n + k : Nat) : Int) ∧ Below w.heap.size w wr) (fun _ i _ => n + m + 1 - (intOf i).toNat)
      case atStart => exact ⟨0, by omega, rfl, rfl, Q⟩
      case round =>
        clear Q
        obtain ⟨k, hk, rfl, rfl, Q⟩ := hrel
        have HQ := Lib.hid Q
        clear Q
        by_cases hlt : k < m + 1
        · have hbk := HB.out k
          have hps := HPL.out k
          have hpc := pcN_lt m k
          have HS : Hid (((psum m k : Nat) : Int) + ((pcN m k : Nat) : Int) = ((psum m (k + 1) : Nat) : Int)) := Lib.hid rfl
          have hjI : ((n + k : Nat) : Int) < (n : Int) + (m : Int) + 1 := by omega
          have hjN : n + k < p.size := by omega
          have HK := Lib.hid hlt
          have HJ : Hid (((n + k : Nat) : Int) + 1 = ((n + (k + 1) : Nat) : Int)) := Lib.hid (by omega)
          have hsI2 : ((psum m k : Nat) : Int) < 40000 := by omega
          have hpI2 : ((pcN m k : Nat) : Int) < 256 := by omega
          clear hlt hk hps hpc HPS HPL HB
          generalize psum m k = sm at *
          generalize pcN m k = pv at *
          generalize n + k = j at *
          go_wp2
          go_roundw
          case rel => exact ⟨k + 1, HK.out, by rw [HS.out], by rw [HJ.out], HQ.out⟩
          case measure => simp [intOf]; omega
        · obtain rfl : k = m + 1 := by omega
          rw [HPS.out]
          have hi : ((n + (m + 1) : Nat) : Int) = (n : Int) + (m : Int) + 1 := by omega
          rw [hi]
          clear hlt hk HPS HPL HB hi
          obtain ⟨hbl1, hbl2⟩ := hbl
          obtain ⟨hb01, hb02⟩ := hb0'
          go_wp2
          go_ret
          exact ⟨rfl, HQ.out⟩
theorem padS_len (s : ByteArray) : (padS s).size = s.size + pmN s + 1 := by
  unfold padS
  rw [ByteArray.size_append]
  show s.size + (pcL (pmN s)).toArray.size = _
  simp [pcL]
  omega
theorem kPads_ret (s more : ByteArray) (hs : s.size ≤ 140737488355328) (hm : more.size ≤ 140737488355328) : RetT Tryd.prog 5 #[.string s, .string more] (.bool true) := by
  obtain ⟨x, hx⟩ : ∃ x, (if s.size ≤ 1000 then s else s.extract 0 1000) = x := ⟨_, rfl⟩
  obtain ⟨z, hz⟩ : ∃ z, (if more.size ≤ 300 then more else more.extract 0 300) = z := ⟨_, rfl⟩
  have hxs : x.size ≤ 1000 := by
    rw [← hx]
    split
    · assumption
    · rw [ByteArray.size_extract]; omega
  have hzs : z.size ≤ 300 := by
    rw [← hz]
    split
    · assumption
    · rw [ByteArray.size_extract]; omega
  have hpm : pmN x < 136 := by unfold pmN; omega
  have h0 := pcN_lt (pmN x) 0
  have hl := pcN_lt (pmN x) (pmN x)
  have hl2 : 128 ≤ pcN (pmN x) (pmN x) := by unfold pcN; rw [if_pos (show pmN x = pmN x from rfl)]; omega
  refine pads_walk s more x (x ++ z) (padS x) (padS (x ++ z)) x.size 0 (pmN x) (fun h => by rw [← hx, if_pos h]) (fun h => by rw [← hx, if_neg (by omega)]) (fun h => by rw [← hz, if_pos (by omega)]) (fun h => ?_) hm hs rfl hxs (padS_len x) hpm (pad_eq _ _)
    (fun j h => by rw [pad_at x j h]) ((pcN (pmN x) 0 : Nat) : Int) ((pcN (pmN x) (pmN x) : Nat) : Int) (fun h => ?_) (fun h => by rw [pad_at x (pmN x) h]) ?_ ⟨by omega, by omega⟩ ⟨by omega, by omega⟩ (pad_ret x (by omega)) (pad_ret _ (by rw [ByteArray.size_append]; omega))
  · rw [← hz]
    split
    · have he : more.size = 300 := by omega
      congr 1
      apply ByteArray.ext
      rw [ByteArray.data_extract]
      apply Array.toList_inj.1
      have hsz : more.data.size = 300 := he
      simp [hsz]
      exact List.take_of_length_le (by simp [hsz])
    · rfl
  · have := pad_at x 0 (by omega)
    exact congrArg (fun n : Nat => (n : Int)) this
  · unfold pcN
    rw [if_pos rfl]
    split <;> decide
end Go.Proofs.YtcjdcalfndicbaaDoor
