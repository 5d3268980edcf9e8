/- Part. -/
import Derived.Test.YtpolmfmlklmmcaaH05
import Derived.Test.YtpolmfmlklmmcaaH02
import Derived.Maps.AppendAt
set_option maxRecDepth 100000
set_option maxHeartbeats 16000000
namespace Go.Proofs.Ytpolmfmlklmmcaa
section
open Go Go.RowKit Go.Shelf
attribute [local go_sem] Oper.semAt_some wide_fn
def nulls (n : Nat) : ByteArray := ⟨(List.replicate n (0 : UInt8)).toArray⟩
theorem nulls_size (n : Nat) : (nulls n).size = n := by show (List.replicate n (0 : UInt8)).toArray.size = n; simp
def nulls32 : ByteArray := ⟨#[0, 0, 0, 0, 0, 0, 0, 0, 0, 0, 0, 0, 0, 0, 0, 0, 0, 0, 0, 0, 0, 0, 0, 0, 0, 0, 0, 0, 0, 0, 0, 0]⟩
theorem nulls32_all : nulls32.extract 0 32 = nulls 32 := by decide +kernel
theorem nulls_cut : ∀ k : Fin 33, nulls32.extract 0 k.val = nulls k.val := by decide +kernel
def fillAt (s : ByteArray) (size : Nat) (k : Nat) : ByteArray := if k = 0 then s else nulls (min (size - s.size - 32 * (k - 1)) 32)
def fillN (s : ByteArray) (size : Nat) : Nat := 1 + (size - s.size + 31) / 32
def fillL (s : ByteArray) (size : Nat) : List ByteArray := (List.range (fillN s size)).map (fillAt s size)
theorem fillL_length (s : ByteArray) (size : Nat) : (fillL s size).length = fillN s size := by simp [fillL]
theorem fillL_at (s : ByteArray) (size k : Nat) (hk : k < fillN s size) : pieceAt (fillL s size) k = fillAt s size k := by
 unfold pieceAt fillL
 rw [List.getD_eq_getElem?_getD, List.getElem?_map, List.getElem?_range hk]
 rfl
theorem catL_fill (s : ByteArray) (size : Nat) : ∀ k, k ≤ fillN s size → catL ((fillL s size).take k) = if k = 0 then [] else s.data.toList ++ List.replicate (min (size - s.size) (32 * (k - 1))) 0
 | 0, _ => rfl
 | k + 1, hk => by
  rw [catL_take _ k (by rw [fillL_length]; omega), catL_fill s size k (by omega), fillL_at s size k (by omega), if_neg (show ¬ k + 1 = 0 by omega)]
  unfold fillAt
  by_cases h0 : k = 0
  ·subst h0
   simp
  ·rw [if_neg h0, if_neg h0]
   show (s.data.toList ++ _) ++ (List.replicate _ (0 : UInt8)).toArray.toList = _
   rw [List.append_assoc, List.toList_toArray, List.replicate_append_replicate]
   congr 2
   omega
theorem catL_filled (s : ByteArray) (size : Nat) : catL (fillL s size) = s.data.toList ++ List.replicate (size - s.size) 0 := by
 have h := catL_fill s size (fillN s size) (Nat.le_refl _)
 rw [← fillL_length, List.take_length, if_neg (by rw [fillL_length]; unfold fillN; omega), fillL_length] at h
 rw [h]
 congr 2
 unfold fillN
 omega
theorem filled_seq (n : Nat) (hn : 1 ≤ n) (n0 Bs : Nat) (s : ByteArray) (hs : s.size ≤ 140737488355328) (size : Nat) (hz : size ≤ 140737488355328) (w : World) (hB1 : Bs + 1 < n0) (hn0 : n0 ≤ w.heap.size) (hc0 : w.cell? ⟨Bs, 0, none⟩ = some (.string s)) (hc1 : w.cell? ⟨Bs + 1, 0, none⟩ = some (.int .i64 (size : Int))) :
  SeqN Fence.wide n Try.prog 56 #[.pointer (some ⟨Bs, 0, none⟩), .pointer (some ⟨Bs + 1, 0, none⟩)] (fun k => #[.string (pieceAt (fillL s size) k)]) (Below n0) (fillL s size).length w := by
 intro l J Jx W hW _ _ hY h0
 rw [fillL_length] at hY ⊢
 have hc0' := (hW.cell (p := ⟨Bs, 0, none⟩) (by show Bs < _; omega)).trans hc0
 have hc1' := (hW.cell (p := ⟨Bs + 1, 0, none⟩) (by show Bs + 1 < _; omega)).trans hc1
 clear hc0 hc1
 have hp0 : 0 < fillN s size := by unfold fillN; omega
 refine callsIn_of_wp Try.func56 rfl trivial ?_ rfl
 simp only [Try.ntmps56, List.size_toArray, List.length_cons, List.length_nil, Nat.reduceAdd, Nat.reduceSub, Array.replicate_succ, Array.replicate_zero, List.push_toArray, List.append_toArray, List.nil_append, List.cons_append]
 obtain ⟨fn, tmps, assign, body, hy, hR⟩ := hY 0 W hp0 h0
 dsimp only at hy
 rw [fillL_at s size 0 hp0, show fillAt s size 0 = s from rfl] at hy
 have HY := hid hY
 clear hY
 gi_wp2
 refine hR.mono ?_
 rintro e W3 (⟨rfl, hJ3, hk3⟩ | ⟨rfl, hJx3⟩)
 ·have d0 : W3.cell? ⟨Bs, 0, none⟩ = some (.string s) := (hk3.cell (p := ⟨Bs, 0, none⟩) (by show Bs < _; omega)).trans hc0'
  have d1 : W3.cell? ⟨Bs + 1, 0, none⟩ = some (.int .i64 (size : Int)) := (hk3.cell (p := ⟨Bs + 1, 0, none⟩) (by show Bs + 1 < _; omega)).trans hc1'
  clear hy hR hc0' hc1'
  gi_wp2
  gi_loopw [4] (fun i wr => ∃ (k : Nat) (q : Int), 1 ≤ k ∧ k ≤ fillN s size ∧ Hid (q = (size : Int) - (s.size : Int) - 32 * ((k - 1 : Nat) : Int)) ∧ i = .int .i64 q ∧ J k wr)
   (fun i _ => (intOf i + 32).toNat)
  case atStart => exact ⟨1, _, Nat.le_refl _, hp0, (by show _ = _; simp), rfl, hJ3⟩
  case round =>
   obtain ⟨k, q, hk1, hk, hq, rfl, hJs⟩ := hrel
   clear hJ3 d0 d1
   by_cases hlt : 0 < q
   ·have hkN : k < fillN s size := by have := hq.out; unfold fillN; omega
    obtain ⟨fn, tmps, assign, body, hy, hR⟩ := HY.out k wr hkN hJs
    have e1 : fillAt s size k = nulls (min q.toNat 32) := by
     have := hq.out
     unfold fillAt
     rw [if_neg (by omega)]
     congr 2
     omega
    rw [fillL_at s size k hkN, e1] at hy
    have HN := hid hkN
    have q1 : q ≤ 140737488355328 := by have := hq.out; omega
    by_cases h32 : q ≤ 32
    ·have ec : nulls32.extract 0 q.toNat = nulls (min q.toNat 32) := by
      rw [Nat.min_eq_left (by omega)]
      exact nulls_cut ⟨q.toNat, by omega⟩
     have em : min q 32 = q := by omega
     rw [← ec] at hy
     unfold nulls32 at hy
     have hq0 : 0 ≤ q := by omega
     clear ec e1 hkN hk
     gi_wp2
     refine hR.mono ?_
     rintro e W4 (⟨rfl, hJ4, hk4⟩ | ⟨rfl, hJx4⟩)
     ·gi_wp2
      go_roundw
      case rel => exact ⟨k + 1, q - 32, by omega, HN.out, (by have := hq.out; show _ = _; omega), rfl, hJ4⟩
      case measure => simp [intOf]; omega
     ·gi_wp2
      refine bodyPost_ret (results_none rfl _ _ _) rfl ?_
      exact ⟨⟨_, rfl⟩, .inr ⟨k, HN.out, hJx4⟩⟩
    ·have ec : nulls32.extract 0 32 = nulls (min q.toNat 32) := by
      rw [Nat.min_eq_right (by omega)]
      exact nulls32_all
     have em : min q 32 = 32 := by omega
     rw [← ec] at hy
     unfold nulls32 at hy
     clear ec e1 hkN hk
     gi_wp2
     refine hR.mono ?_
     rintro e W4 (⟨rfl, hJ4, hk4⟩ | ⟨rfl, hJx4⟩)
     ·gi_wp2
      go_roundw
      case rel => exact ⟨k + 1, q - 32, by omega, HN.out, (by have := hq.out; show _ = _; omega), rfl, hJ4⟩
      case measure => simp [intOf]; omega
     ·gi_wp2
      refine bodyPost_ret (results_none rfl _ _ _) rfl ?_
      exact ⟨⟨_, rfl⟩, .inr ⟨k, HN.out, hJx4⟩⟩
   ·have hk2 : k = fillN s size := by have := hq.out; unfold fillN at *; omega
    have HJ : Hid (J (fillN s size) wr) := by rw [← hk2]; exact hJs
    clear hJs hk2
    gi_wp2
    go_end0
    exact ⟨⟨_, rfl⟩, .inl HJ.out⟩
 ·gi_wp2
  refine bodyPost_ret (results_none rfl _ _ _) rfl ?_
  exact ⟨⟨_, rfl⟩, .inr ⟨0, hp0, hJx3⟩⟩
theorem filled_any (s : ByteArray) (n : Int) (w : World) :
  Calls Try.prog 38 #[.string s, .int .i64 n] w fun e w' => e = .returned (.func (.func 56) #[] #[.pointer (some ⟨w.heap.size, 0, none⟩), .pointer (some ⟨w.heap.size + 1, 0, none⟩)]) ∧ w' = (w.alloc (.cells #[.string s] 9)).alloc (.cells #[.int .i64 n] 3) := by
 go_enter Try.func38, Try.ntmps38
 go_wp2
 go_ret
 exact ⟨rfl, rfl⟩
theorem filled_made (s : ByteArray) (hs : s.size ≤ 70368744177664) (size : Nat) (hz : size ≤ 70368744177664) (w : World) :
  Calls Try.prog 37 #[.int .i64 (size : Int), .func (.func 56) #[] #[.pointer (some ⟨w.heap.size, 0, none⟩), .pointer (some ⟨w.heap.size + 1, 0, none⟩)]] ((w.alloc (.cells #[.string s] 9)).alloc (.cells #[.int .i64 (size : Int)] 3)) fun e w' =>
   e = .returned (.string ⟨(s.data.toList ++ List.replicate (size - s.size) 0).toArray⟩) ∧ Below w.heap.size w w' := by
 have L0 := (Has.new w 9 #[.string s]).alloc (.cells #[.int .i64 (size : Int)] 3)
 have L1 := Has.new (w.alloc (.cells #[.string s] 9)) 3 #[.int .i64 (size : Int)]
 have hsz : ((w.alloc (.cells #[.string s] 9)).alloc (.cells #[.int .i64 (size : Int)] 3)).heap.size = w.heap.size + 2 := by simp
 have hb : Below w.heap.size w ((w.alloc (.cells #[.string s] 9)).alloc (.cells #[.int .i64 (size : Int)] 3)) := ((Below.refl _ w).alloc (Nat.le_refl _) _).alloc (by simp) _
 simp only [World.size_alloc] at L1
 have hc := catL_filled s size
 refine (joined_any (fillL s size) size (by omega) (by rw [hc]; simp; omega) _ _ (enters_of Try.func56 (by kernel_rfl) rfl) _ (fun W hW => ?_)).mono ?_
 ·refine filled_seq 3 (by omega) _ w.heap.size s (by omega) size (by omega) W (by rw [hsz]; omega) hW.size ?_ ?_
  ·exact (L0.later hW).cell 0 _ rfl
  ·exact (L1.later hW).cell 0 _ rfl
 ·rintro e w' ⟨rfl, q⟩
  rw [hc]
  exact ⟨rfl, hb.trans (q.mono (by rw [hsz]; omega))⟩
def overL (m : ByteArray) (k : Nat) (s : ByteArray) : List ByteArray := [m.extract 0 k, s, m.extract (k + s.size) m.size]
theorem over_seq (n : Nat) (hn : 1 ≤ n) (n0 Bs : Nat) (m s : ByteArray) (k : Nat) (hm : m.size ≤ 140737488355328) (hk : k + s.size ≤ m.size) (w : World) (hB1 : Bs + 2 < n0) (hn0 : n0 ≤ w.heap.size) (hc0 : w.cell? ⟨Bs, 0, none⟩ = some (.string m)) (hc1 : w.cell? ⟨Bs + 1, 0, none⟩ = some (.int .i64 (k : Int))) (hc2 : w.cell? ⟨Bs + 2, 0, none⟩ = some (.string s)) :
  SeqN Fence.wide n Try.prog 60 #[.pointer (some ⟨Bs, 0, none⟩), .pointer (some ⟨Bs + 1, 0, none⟩), .pointer (some ⟨Bs + 2, 0, none⟩)] (fun k' => #[.string (pieceAt (overL m k s) k')]) (Below n0) (overL m k s).length w := by
 intro l J Jx W hW _ _ hY h0
 have hc0' := (hW.cell (p := ⟨Bs, 0, none⟩) (by show Bs < _; omega)).trans hc0
 have hc1' := (hW.cell (p := ⟨Bs + 1, 0, none⟩) (by show Bs + 1 < _; omega)).trans hc1
 have hc2' := (hW.cell (p := ⟨Bs + 2, 0, none⟩) (by show Bs + 2 < _; omega)).trans hc2
 clear hc0 hc1 hc2
 have kI : (k : Int) ≤ (m.size : Int) := by omega
 have k0 : (0 : Int) ≤ (k : Int) := by omega
 have ksI : (k : Int) + (s.size : Int) ≤ (m.size : Int) := by omega
 have ks0 : (0 : Int) ≤ (k : Int) + (s.size : Int) := by omega
 have ksT : ((k : Int) + (s.size : Int)).toNat = k + s.size := by omega
 refine callsIn_of_wp Try.func60 rfl trivial ?_ rfl
 simp only [Try.ntmps60, List.size_toArray, List.length_cons, List.length_nil, Nat.reduceAdd, Nat.reduceSub, Array.replicate_succ, Array.replicate_zero, List.push_toArray, List.append_toArray, List.nil_append, List.cons_append]
 obtain ⟨fn, tmps, assign, body, hy, hR⟩ := hY 0 W (by show 0 < 3; omega) h0
 dsimp only at hy
 rw [show pieceAt (overL m k s) 0 = m.extract 0 k from rfl] at hy
 have HY := hid hY
 clear hY
 gi_wp2
 refine hR.mono ?_
 clear hy hR
 rintro e W1 (⟨rfl, hJ1, hk1⟩ | ⟨rfl, hJx⟩)
 ·have d0 : W1.cell? ⟨Bs, 0, none⟩ = some (.string m) := (hk1.cell (p := ⟨Bs, 0, none⟩) (by show Bs < _; omega)).trans hc0'
  have d1 : W1.cell? ⟨Bs + 1, 0, none⟩ = some (.int .i64 (k : Int)) := (hk1.cell (p := ⟨Bs + 1, 0, none⟩) (by show Bs + 1 < _; omega)).trans hc1'
  have d2 : W1.cell? ⟨Bs + 2, 0, none⟩ = some (.string s) := (hk1.cell (p := ⟨Bs + 2, 0, none⟩) (by show Bs + 2 < _; omega)).trans hc2'
  clear hc0' hc1' hc2'
  obtain ⟨fn, tmps, assign, body, hy, hR⟩ := HY.out 1 W1 (by show 1 < 3; omega) hJ1
  rw [show pieceAt (overL m k s) 1 = s from rfl] at hy
  gi_wp2
  refine hR.mono ?_
  clear hy hR
  rintro e W2 (⟨rfl, hJ2, hk2⟩ | ⟨rfl, hJx⟩)
  ·have c0 : W2.cell? ⟨Bs, 0, none⟩ = some (.string m) := (hk2.cell (p := ⟨Bs, 0, none⟩) (by show Bs < _; omega)).trans d0
   have c1 : W2.cell? ⟨Bs + 1, 0, none⟩ = some (.int .i64 (k : Int)) := (hk2.cell (p := ⟨Bs + 1, 0, none⟩) (by show Bs + 1 < _; omega)).trans d1
   have c2 : W2.cell? ⟨Bs + 2, 0, none⟩ = some (.string s) := (hk2.cell (p := ⟨Bs + 2, 0, none⟩) (by show Bs + 2 < _; omega)).trans d2
   clear d0 d1 d2
   obtain ⟨fn, tmps, assign, body, hy, hR⟩ := HY.out 2 W2 (by show 2 < 3; omega) hJ2
   rw [show pieceAt (overL m k s) 2 = m.extract (k + s.size) m.size from rfl] at hy
   gi_wp2
   refine hR.mono ?_
   clear hy hR
   rintro e W3 (⟨rfl, hJ3, hk3⟩ | ⟨rfl, hJx⟩)
   ·gi_wp2
    go_end0
    exact ⟨⟨_, rfl⟩, .inl hJ3⟩
   ·gi_wp2
    go_end0
    exact ⟨⟨_, rfl⟩, .inr ⟨2, by show 2 < 3; omega, hJx⟩⟩
  ·gi_wp2
   go_end0
   exact ⟨⟨_, rfl⟩, .inr ⟨1, by show 1 < 3; omega, hJx⟩⟩
 ·gi_wp2
  go_end0
  exact ⟨⟨_, rfl⟩, .inr ⟨0, by show 0 < 3; omega, hJx⟩⟩
theorem over_any (m s : ByteArray) (k : Int) (w : World) :
  Calls Try.prog 45 #[.string m, .int .i64 k, .string s] w fun e w' => e = .returned (.func (.func 60) #[] #[.pointer (some ⟨w.heap.size, 0, none⟩), .pointer (some ⟨w.heap.size + 1, 0, none⟩), .pointer (some ⟨w.heap.size + 1 + 1, 0, none⟩)]) ∧ w' = ((w.alloc (.cells #[.string m] 9)).alloc (.cells #[.int .i64 k] 3)).alloc (.cells #[.string s] 9) := by
 go_enter Try.func45, Try.ntmps45
 go_wp2
 go_ret
 exact ⟨rfl, rfl⟩
def overS (m : ByteArray) (k : Nat) (s : ByteArray) : ByteArray := ⟨(m.data.toList.take k ++ (s.data.toList ++ m.data.toList.drop (k + s.size))).toArray⟩
theorem catL_over (m : ByteArray) (k : Nat) (s : ByteArray) : catL (overL m k s) = m.data.toList.take k ++ (s.data.toList ++ m.data.toList.drop (k + s.size)) := by
 show (m.extract 0 k).data.toList ++ (s.data.toList ++ ((m.extract (k + s.size) m.size).data.toList ++ [])) = _
 rw [extract_list, extract_list, List.append_nil]
 congr 2
 exact List.take_of_length_le (by simp)
theorem over_made (m s : ByteArray) (k : Nat) (hm : m.size ≤ 70368744177664) (hk : k + s.size ≤ m.size) (w : World) :
  Calls Try.prog 37 #[.int .i64 (m.size : Int), .func (.func 60) #[] #[.pointer (some ⟨w.heap.size, 0, none⟩), .pointer (some ⟨w.heap.size + 1, 0, none⟩), .pointer (some ⟨w.heap.size + 1 + 1, 0, none⟩)]] (((w.alloc (.cells #[.string m] 9)).alloc (.cells #[.int .i64 (k : Int)] 3)).alloc (.cells #[.string s] 9)) fun e w' =>
   e = .returned (.string (overS m k s)) ∧ Below w.heap.size w w' := by
 have L0 := ((Has.new w 9 #[.string m]).alloc (.cells #[.int .i64 (k : Int)] 3)).alloc (.cells #[.string s] 9)
 have L1 := (Has.new (w.alloc (.cells #[.string m] 9)) 3 #[.int .i64 (k : Int)]).alloc (.cells #[.string s] 9)
 have L2 := Has.new ((w.alloc (.cells #[.string m] 9)).alloc (.cells #[.int .i64 (k : Int)] 3)) 9 #[.string s]
 have hsz : (((w.alloc (.cells #[.string m] 9)).alloc (.cells #[.int .i64 (k : Int)] 3)).alloc (.cells #[.string s] 9)).heap.size = w.heap.size + 3 := by simp
 have hb : Below w.heap.size w (((w.alloc (.cells #[.string m] 9)).alloc (.cells #[.int .i64 (k : Int)] 3)).alloc (.cells #[.string s] 9)) := (((Below.refl _ w).alloc (Nat.le_refl _) _).alloc (by simp) _).alloc (by simp; omega) _
 simp only [World.size_alloc] at L1 L2
 have hc := catL_over m k s
 refine (joined_any (overL m k s) m.size (by omega) (by rw [hc]; simp; omega) _ _ (enters_of Try.func60 (by kernel_rfl) rfl) _ (fun W hW => ?_)).mono ?_
 ·refine over_seq 3 (by omega) _ w.heap.size m s k (by omega) hk W (by rw [hsz]; omega) hW.size ?_ ?_ ?_
  ·exact (L0.later hW).cell 0 _ rfl
  ·exact (L1.later hW).cell 0 _ rfl
  ·exact (L2.later hW).cell 0 _ rfl
 ·rintro e w' ⟨rfl, q⟩
  rw [hc]
  exact ⟨rfl, hb.trans (q.mono (by rw [hsz]; omega))⟩
end
section
open Go Go.RowKit Go.Shelf
attribute [local go_sem] Oper.semAt_some Grows wide_fn eq4
def fullS (m : ByteArray) (n : Nat) : ByteArray := ⟨(m.data.toList ++ List.replicate (n - m.size) 0).toArray⟩
theorem fullS_self (m : ByteArray) (n : Nat) (h : n ≤ m.size) : fullS m n = m := by
 unfold fullS
 rw [Nat.sub_eq_zero_of_le h, List.replicate_zero, List.append_nil]
def copyV (m : ByteArray) (k : Int) (s : ByteArray) : Value := if thereB m k (s.size : Int) then .tuple #[.string (overS m k.toNat s), .int .i64 0] else .tuple #[.string m, .int .i64 1]
theorem thereB_may {m : ByteArray} {k n : Int} (h : thereB m k n = true) : m.size ≤ 1048576 ∧ m.size % 32 = 0 ∧ 0 ≤ k ∧ 0 ≤ n ∧ k + n ≤ (m.size : Int) := by
 unfold thereB mayB at h
 simp only [Bool.and_eq_true, decide_eq_true_eq] at h
 exact ⟨h.1.1, h.1.2, h.2.1, h.2.2.1, h.2.2.2⟩
theorem copy_ret (m s : ByteArray) (hm : m.size ≤ 70368744177664) (k : Int) : Ret Try.prog 24 #[.string m, .int .i64 k, .string s] (copyV m k s) := by
 intro w
 have H0 := hid (there_ret m (by omega) k (s.size : Int))
 unfold copyV
 cases h : thereB m k (s.size : Int) with
 | false =>
  rw [h] at H0
  rw [if_neg (by decide)]
  clear h
  go_enter Try.func24, Try.ntmps24
  go_wp2_with fail
  refine (H0.out _).mono ?_
  rintro e w1 ⟨rfl, q1⟩
  go_wp2
  go_ret2
  exact ⟨rfl, q1⟩
 | true =>
  obtain ⟨g1, g2, g3, g4, g5⟩ := thereB_may h
  rw [h] at H0
  rw [if_pos rfl]
  obtain ⟨kn, rfl⟩ : ∃ kn : Nat, k = (kn : Int) := ⟨k.toNat, by omega⟩
  have HO := fun W => over_made m s kn hm (by omega) W
  rw [Int.toNat_natCast]
  have HO := hid HO
  clear h g1 g2 g3 g4 g5
  go_enter Try.func24, Try.ntmps24
  go_wp2_with fail
  refine (H0.out _).mono ?_
  rintro e w1 ⟨rfl, q1⟩
  go_wp2_with fail
  refine (over_any _ _ _ _).mono ?_
  rintro e w2 ⟨rfl, rfl⟩
  go_wp2_with fail
  refine (HO.out _).mono ?_
  rintro e w3 ⟨rfl, q3⟩
  go_wp2
  go_ret2
  exact ⟨rfl, q1.trans (q3.mono q1.size)⟩
def growV (m : ByteArray) (k : Int) : Value := if mayB m && limB k 32768 then .tuple #[.string (fullS m (32 * k.toNat)), .int .i64 0] else .tuple #[.string m, .int .i64 1]
theorem grow_ret (m : ByteArray) (hm : m.size ≤ 70368744177664) (k : Int) : Ret Try.prog 16 #[.string m, .int .i64 k] (growV m k) := by
 intro w
 have H0 := hid (limI_ret k 32768)
 have HM := hid (may_ret m (by omega))
 unfold growV
 cases h1 : limB k 32768 with
 | false =>
  rw [h1] at H0
  rw [Bool.and_false, if_neg (by decide)]
  generalize limV k 32768 = v at *
  clear h1 HM
  go_enter Try.func16, Try.ntmps16
  go_wp2_with fail
  refine (H0.out _).mono ?_
  rintro e w1 ⟨rfl, q1⟩
  go_wp2
  go_ret2
  exact ⟨rfl, q1⟩
 | true =>
  obtain ⟨g0, g1⟩ := limB_true h1
  rw [h1] at H0
  rw [Bool.and_true]
  generalize limV k 32768 = v at *
  cases h2 : mayB m with
  | false =>
   rw [h2] at HM
   rw [if_neg (by decide)]
   clear h1 h2 g0 g1
   go_enter Try.func16, Try.ntmps16
   go_wp2_with fail
   refine (H0.out _).mono ?_
   rintro e w1 ⟨rfl, q1⟩
   go_wp2_with fail
   refine (HM.out _).mono ?_
   rintro e w2 ⟨rfl, q2⟩
   go_wp2
   go_ret2
   exact ⟨rfl, q1.trans (q2.mono q1.size)⟩
  | true =>
   rw [h2] at HM
   rw [if_pos rfl]
   obtain ⟨kn, rfl⟩ : ∃ kn : Nat, k = (kn : Int) := ⟨k.toNat, by omega⟩
   rw [Int.toNat_natCast]
   by_cases h3 : 32 * kn ≤ m.size
   ·rw [fullS_self _ _ h3]
    have h3' : (kn : Int) * 32 ≤ (m.size : Int) := by omega
    clear h1 h2 h3
    go_enter Try.func16, Try.ntmps16
    go_wp2_with fail
    refine (H0.out _).mono ?_
    rintro e w1 ⟨rfl, q1⟩
    go_wp2_with fail
    refine (HM.out _).mono ?_
    rintro e w2 ⟨rfl, q2⟩
    go_wp2
    go_ret2
    exact ⟨rfl, q1.trans (q2.mono q1.size)⟩
   ·have h3' : ¬ (kn : Int) * 32 ≤ (m.size : Int) := by omega
    have HO := fun W => filled_made m hm (32 * kn) (by omega) W
    have e32 : ((32 * kn : Nat) : Int) = (kn : Int) * 32 := by omega
    rw [e32] at HO
    have HO := hid HO
    show Calls _ _ _ w fun e w' => e = .returned (.tuple #[.string ⟨(m.data.toList ++ List.replicate (32 * kn - m.size) 0).toArray⟩, _]) ∧ _
    clear h1 h2 h3 e32
    go_enter Try.func16, Try.ntmps16
    go_wp2_with fail
    refine (H0.out _).mono ?_
    rintro e w1 ⟨rfl, q1⟩
    go_wp2_with fail
    refine (HM.out _).mono ?_
    rintro e w2 ⟨rfl, q2⟩
    have q12 := q1.trans (q2.mono q1.size)
    go_wp2_with fail
    refine (filled_any _ _ _).mono ?_
    rintro e w3 ⟨rfl, rfl⟩
    go_wp2_with fail
    refine (HO.out _).mono ?_
    rintro e w4 ⟨rfl, q4⟩
    go_wp2
    go_ret2
    exact ⟨rfl, q12.trans (q4.mono q12.size)⟩
theorem load_not (m : ByteArray) (k : Int) (h1 : Ret Try.prog 40 #[.string m, .int .i64 k, .int .i64 32] (.bool false)) :
  Ret Try.prog 18 #[.string m, .int .i64 k] (.tuple #[.agg #[.int .u64 0, .int .u64 0, .int .u64 0, .int .u64 0], .int .i64 1]) := by
 intro w
 have Hh1 := hid h1
 clear h1
 go_enter Try.func18, Try.ntmps18
 have LR := Has.new w 24 #[.int .u64 0, .int .u64 0, .int .u64 0, .int .u64 0]
 have k1 := LR.cell 0 _ rfl
 have k2 := LR.cell 1 _ rfl
 have k3 := LR.cell 2 _ rfl
 have k4 := LR.cell 3 _ rfl
 have Q := (Below.refl w.heap.size w)
 have Q := Q.alloc Q.size (.cells #[.int .u64 0, .int .u64 0, .int .u64 0, .int .u64 0] 24)
 go_wp2_with fail
 clear k1 k2 k3 k4
 obtain ⟨W1, hW1⟩ : ∃ W1, (w.alloc (.cells #[.int .u64 0, .int .u64 0, .int .u64 0, .int .u64 0] 24)) = W1 := ⟨_, rfl⟩
 rw [hW1] at LR Q ⊢
 clear hW1
 refine (Hh1.out _).mono ?_
 rintro e v5 ⟨rfl, q⟩
 have LR := LR.later q
 have Q := Q.trans (q.mono Q.size)
 clear q
 have k6 := LR.cell 0 _ rfl
 have k7 := LR.cell 1 _ rfl
 have k8 := LR.cell 2 _ rfl
 have k9 := LR.cell 3 _ rfl
 have z0 := LR.frozen 0
 have z1 := LR.frozen 1
 have z2 := LR.frozen 2
 have z3 := LR.frozen 3
 have HR := hid (((((LR.set 0 (.int .u64 0)).set 1 (.int .u64 0)).set 2 (.int .u64 0)).set 3 (.int .u64 0)))
 have HQ := hid (((((Q.setCell (p := ⟨w.heap.size, 0, none⟩) (show w.heap.size ≤ _ by simp; first | done | omega) (.int .u64 0)).setCell (p := ⟨w.heap.size, 1, none⟩) (show w.heap.size ≤ _ by simp; first | done | omega) (.int .u64 0)).setCell (p := ⟨w.heap.size, 2, none⟩) (show w.heap.size ≤ _ by simp; first | done | omega) (.int .u64 0)).setCell (p := ⟨w.heap.size, 3, none⟩) (show w.heap.size ≤ _ by simp; first | done | omega) (.int .u64 0)))
 clear Q LR
 go_wp2
 refine bodyPost_ret (results_wordE (m := fun _ => 0) rfl rfl HR.out) rfl ⟨rfl, HQ.out⟩
theorem load_is (m : ByteArray) (k : Nat) (z : Nat → Int) (hk : (k : Int) + 32 ≤ (m.size : Int)) (hm : (m.size : Int) ≤ 1048576) (h1 : Ret Try.prog 40 #[.string m, .int .i64 (k : Int), .int .i64 32] (.bool true)) (h2 : Ret Try.prog 41 #[.string (m.extract k (k + 32))] (.agg #[.int .u64 (z 0), .int .u64 (z 1), .int .u64 (z 2), .int .u64 (z 3)])) :
  Ret Try.prog 18 #[.string m, .int .i64 (k : Int)] (.tuple #[.agg #[.int .u64 (z 0), .int .u64 (z 1), .int .u64 (z 2), .int .u64 (z 3)], .int .i64 0]) := by
 intro w
 have s0 : (0 : Int) ≤ (k : Int) := by omega
 have s2 : (k : Int) ≤ (k : Int) + 32 := by omega
 have s3 : (0 : Int) ≤ (k : Int) + 32 := by omega
 have Hh1 := hid h1
 have Hh2 := hid h2
 clear h1 h2
 go_enter Try.func18, Try.ntmps18
 have LR := Has.new w 24 #[.int .u64 0, .int .u64 0, .int .u64 0, .int .u64 0]
 have k1 := LR.cell 0 _ rfl
 have k2 := LR.cell 1 _ rfl
 have k3 := LR.cell 2 _ rfl
 have k4 := LR.cell 3 _ rfl
 have Q := (Below.refl w.heap.size w)
 have Q := Q.alloc Q.size (.cells #[.int .u64 0, .int .u64 0, .int .u64 0, .int .u64 0] 24)
 go_wp2_with fail
 clear k1 k2 k3 k4
 obtain ⟨W1, hW1⟩ : ∃ W1, (w.alloc (.cells #[.int .u64 0, .int .u64 0, .int .u64 0, .int .u64 0] 24)) = W1 := ⟨_, rfl⟩
 rw [hW1] at LR Q ⊢
 clear hW1
 refine (Hh1.out _).mono ?_
 rintro e v5 ⟨rfl, q⟩
 have LR := LR.later q
 have Q := Q.trans (q.mono Q.size)
 clear q
 have k6 := LR.cell 0 _ rfl
 have k7 := LR.cell 1 _ rfl
 have k8 := LR.cell 2 _ rfl
 have k9 := LR.cell 3 _ rfl
 go_wp2_with fail
 clear k6 k7 k8 k9
 refine (Hh2.out _).mono ?_
 rintro e v10 ⟨rfl, q⟩
 have LR := LR.later q
 have Q := Q.trans (q.mono Q.size)
 clear q
 have k11 := LR.cell 0 _ rfl
 have k12 := LR.cell 1 _ rfl
 have k13 := LR.cell 2 _ rfl
 have k14 := LR.cell 3 _ rfl
 have z0 := LR.frozen 0
 have z1 := LR.frozen 1
 have z2 := LR.frozen 2
 have z3 := LR.frozen 3
 have HR := hid (((((LR.set 0 (.int .u64 (z 0))).set 1 (.int .u64 (z 1))).set 2 (.int .u64 (z 2))).set 3 (.int .u64 (z 3))))
 have HQ := hid (((((Q.setCell (p := ⟨w.heap.size, 0, none⟩) (show w.heap.size ≤ _ by simp; first | done | omega) (.int .u64 (z 0))).setCell (p := ⟨w.heap.size, 1, none⟩) (show w.heap.size ≤ _ by simp; first | done | omega) (.int .u64 (z 1))).setCell (p := ⟨w.heap.size, 2, none⟩) (show w.heap.size ≤ _ by simp; first | done | omega) (.int .u64 (z 2))).setCell (p := ⟨w.heap.size, 3, none⟩) (show w.heap.size ≤ _ by simp; first | done | omega) (.int .u64 (z 3))))
 clear Q LR
 go_wp2
 refine bodyPost_ret (results_wordE (m := z) rfl rfl HR.out) rfl ⟨rfl, HQ.out⟩
def wordAt (m : ByteArray) (k : Nat) : Nat := fromB (m.extract k (k + 32)).data.toList
def loadV (m : ByteArray) (k : Int) : Value := if thereB m k 32 then .tuple #[wv (wordAt m k.toNat), .int .i64 0] else .tuple #[wv 0, .int .i64 1]
theorem load_ret (m : ByteArray) (hm : m.size ≤ 70368744177664) (k : Int) : Ret Try.prog 18 #[.string m, .int .i64 k] (loadV m k) := by
 have h0 := there_ret m (by omega) k 32
 unfold loadV
 cases h : thereB m k 32 with
 | false =>
  rw [h] at h0
  rw [if_neg (by decide)]
  exact load_not _ _ h0
 | true =>
  obtain ⟨g1, g2, g3, g4, g5⟩ := thereB_may h
  rw [h] at h0
  rw [if_pos rfl]
  obtain ⟨kn, rfl⟩ : ∃ kn : Nat, k = (kn : Int) := ⟨k.toNat, by omega⟩
  rw [Int.toNat_natCast]
  exact load_is m kn _ g5 (by omega) h0 (fromBytes_ret _ (by rw [ByteArray.size_extract]; omega))
theorem store_walk (m b r : ByteArray) (k e : Int) (za : Nat → Int) (h1 : Ret Try.prog 44 #[.agg #[.int .u64 (za 0), .int .u64 (za 1), .int .u64 (za 2), .int .u64 (za 3)]] (.string b)) (h2 : Ret Try.prog 24 #[.string m, .int .i64 k, .string b] (.tuple #[.string r, .int .i64 e])) :
  Ret Try.prog 20 #[.string m, .int .i64 k, .agg #[.int .u64 (za 0), .int .u64 (za 1), .int .u64 (za 2), .int .u64 (za 3)]] (.tuple #[.string r, .int .i64 e]) := by
 intro w
 have Hh1 := hid h1
 have Hh2 := hid h2
 clear h1 h2
 go_enter Try.func20, Try.ntmps20
 have LA := Has.new w 24 #[.int .u64 (za 0), .int .u64 (za 1), .int .u64 (za 2), .int .u64 (za 3)]
 have k1 := LA.cell 0 _ rfl
 have k2 := LA.cell 1 _ rfl
 have k3 := LA.cell 2 _ rfl
 have k4 := LA.cell 3 _ rfl
 have Q := (Below.refl w.heap.size w)
 have Q := Q.alloc Q.size (.cells #[.int .u64 (za 0), .int .u64 (za 1), .int .u64 (za 2), .int .u64 (za 3)] 24)
 go_wp2_with fail
 clear k1 k2 k3 k4
 obtain ⟨W1, hW1⟩ : ∃ W1, (w.alloc (.cells #[.int .u64 (za 0), .int .u64 (za 1), .int .u64 (za 2), .int .u64 (za 3)] 24)) = W1 := ⟨_, rfl⟩
 rw [hW1] at LA Q ⊢
 clear hW1
 refine (Hh1.out _).mono ?_
 rintro e v5 ⟨rfl, q⟩
 have LA := LA.later q
 have Q := Q.trans (q.mono Q.size)
 clear q
 clear LA
 go_wp2_with fail
 refine (Hh2.out _).mono ?_
 rintro e v6 ⟨rfl, q⟩
 have Q := Q.trans (q.mono Q.size)
 clear q
 go_wp2
 go_ret2
 exact ⟨rfl, Q⟩
theorem byte_walk (m b r : ByteArray) (k e : Int) (za : Nat → Int) (hb : (b.size : Int) = 32) (h1 : Ret Try.prog 44 #[.agg #[.int .u64 (za 0), .int .u64 (za 1), .int .u64 (za 2), .int .u64 (za 3)]] (.string b)) (h2 : Ret Try.prog 24 #[.string m, .int .i64 k, .string (b.extract 31 b.size)] (.tuple #[.string r, .int .i64 e])) :
  Ret Try.prog 22 #[.string m, .int .i64 k, .agg #[.int .u64 (za 0), .int .u64 (za 1), .int .u64 (za 2), .int .u64 (za 3)]] (.tuple #[.string r, .int .i64 e]) := by
 intro w
 have Hh1 := hid h1
 have Hh2 := hid h2
 clear h1 h2
 go_enter Try.func22, Try.ntmps22
 have LA := Has.new w 24 #[.int .u64 (za 0), .int .u64 (za 1), .int .u64 (za 2), .int .u64 (za 3)]
 have k1 := LA.cell 0 _ rfl
 have k2 := LA.cell 1 _ rfl
 have k3 := LA.cell 2 _ rfl
 have k4 := LA.cell 3 _ rfl
 have Q := (Below.refl w.heap.size w)
 have Q := Q.alloc Q.size (.cells #[.int .u64 (za 0), .int .u64 (za 1), .int .u64 (za 2), .int .u64 (za 3)] 24)
 go_wp2_with fail
 clear k1 k2 k3 k4
 obtain ⟨W1, hW1⟩ : ∃ W1, (w.alloc (.cells #[.int .u64 (za 0), .int .u64 (za 1), .int .u64 (za 2), .int .u64 (za 3)] 24)) = W1 := ⟨_, rfl⟩
 rw [hW1] at LA Q ⊢
 clear hW1
 refine (Hh1.out _).mono ?_
 rintro e v5 ⟨rfl, q⟩
 have LA := LA.later q
 have Q := Q.trans (q.mono Q.size)
 clear q
 clear LA
 go_wp2_with fail
 refine (Hh2.out _).mono ?_
 rintro e v6 ⟨rfl, q⟩
 have Q := Q.trans (q.mono Q.size)
 clear q
 go_wp2
 go_ret2
 exact ⟨rfl, Q⟩
def copyR (m : ByteArray) (k : Int) (s : ByteArray) : ByteArray := if thereB m k (s.size : Int) then overS m k.toNat s else m
def copyE (m : ByteArray) (k : Int) (s : ByteArray) : Int := if thereB m k (s.size : Int) then 0 else 1
theorem copyV_eq (m : ByteArray) (k : Int) (s : ByteArray) : copyV m k s = .tuple #[.string (copyR m k s), .int .i64 (copyE m k s)] := by
 unfold copyV copyR copyE; split <;> rfl
theorem bytesOf_len (a : Nat) : (bytesOf a).size = 32 := by unfold bytesOf; rw [strOfNums_size]; simp
theorem store_ret (m : ByteArray) (hm : m.size ≤ 70368744177664) (k : Int) (a : Nat) (ha : W256 a) : Ret Try.prog 20 #[.string m, .int .i64 k, wv a] (copyV m k (bytesOf a)) := by
 have h := copy_ret m (bytesOf a) hm k
 rw [copyV_eq] at h ⊢
 exact store_walk _ _ _ _ _ _ (bytes_ret a ha) h
def lastOf (a : Nat) : ByteArray := (bytesOf a).extract 31 (bytesOf a).size
theorem byte_ret (m : ByteArray) (hm : m.size ≤ 70368744177664) (k : Int) (a : Nat) (ha : W256 a) : Ret Try.prog 22 #[.string m, .int .i64 k, wv a] (copyV m k (lastOf a)) := by
 have h := copy_ret m (lastOf a) hm k
 rw [copyV_eq] at h ⊢
 exact byte_walk _ _ _ _ _ _ (by rw [bytesOf_len]; rfl) (bytes_ret a ha) h
def sliceV (m : ByteArray) (k n : Int) : Value := if thereB m k n then .tuple #[.string (m.extract k.toNat (k + n).toNat), .int .i64 0] else .tuple #[.string ⟨#[]⟩, .int .i64 1]
theorem strClone_ret (s : ByteArray) (hs : s.size ≤ 70368744177664) : Ret Try.prog 46 #[.string s] (.string s) := by
 intro w
 go_enter Try.func46, Try.ntmps46
 go_wp2_with fail
 refine (clone_any s _ (by omega)).mono ?_
 rintro e w1 ⟨rfl, q1⟩
 go_wp2
 go_ret
 exact ⟨rfl, q1⟩
theorem slice_ret (m : ByteArray) (hm : m.size ≤ 70368744177664) (k n : Int) : Ret Try.prog 26 #[.string m, .int .i64 k, .int .i64 n] (sliceV m k n) := by
 intro w
 have H0 := hid (there_ret m (by omega) k n)
 unfold sliceV
 cases h : thereB m k n with
 | false =>
  rw [h] at H0
  rw [if_neg (by decide)]
  clear h
  go_enter Try.func26, Try.ntmps26
  go_wp2_with fail
  refine (H0.out _).mono ?_
  rintro e w1 ⟨rfl, q1⟩
  go_wp2
  go_ret2
  exact ⟨rfl, q1⟩
 | true =>
  obtain ⟨g1, g2, g3, g4, g5⟩ := thereB_may h
  rw [h] at H0
  rw [if_pos rfl]
  obtain ⟨kn, rfl⟩ : ∃ kn : Nat, k = (kn : Int) := ⟨k.toNat, by omega⟩
  obtain ⟨nn, rfl⟩ : ∃ nn : Nat, n = (nn : Int) := ⟨n.toNat, by omega⟩
  have et : ((kn : Int) + (nn : Int)).toNat = kn + nn := by omega
  rw [Int.toNat_natCast, et]
  have HC := hid (strClone_ret (m.extract kn (kn + nn)) (by rw [ByteArray.size_extract]; omega))
  have g6 : (m.size : Int) ≤ 1048576 := by omega
  have s2 : (kn : Int) ≤ (kn : Int) + (nn : Int) := by omega
  have s3 : (0 : Int) ≤ (kn : Int) + (nn : Int) := by omega
  clear h g1 g2 et hm
  go_enter Try.func26, Try.ntmps26
  go_wp2_with fail
  refine (H0.out _).mono ?_
  rintro e w1 ⟨rfl, q1⟩
  go_wp2_with fail
  refine (HC.out _).mono ?_
  rintro e w2 ⟨rfl, q2⟩
  go_wp2
  go_ret2
  exact ⟨rfl, q1.trans (q2.mono q1.size)⟩
def pieceS (s : ByteArray) (a n : Nat) : ByteArray := fullS ((s.extract (min a s.size) s.size).extract 0 (min n (s.extract (min a s.size) s.size).size)) n
theorem piece_not (s : ByteArray) (za : Nat → Int) (n v : Int) (h1 : Ret Try.prog 31 #[.int .i64 n, .int .i64 1048576, .func (.func 32) #[] #[]] (.tuple #[.int .i64 v, .bool false])) :
  Ret Try.prog 28 #[.string s, .agg #[.int .u64 (za 0), .int .u64 (za 1), .int .u64 (za 2), .int .u64 (za 3)], .int .i64 n] (.tuple #[.string ⟨#[]⟩, .int .i64 1]) := by
 intro w
 have Hh1 := hid h1
 clear h1
 go_enter Try.func28, Try.ntmps28
 have LA := Has.new w 24 #[.int .u64 (za 0), .int .u64 (za 1), .int .u64 (za 2), .int .u64 (za 3)]
 have k1 := LA.cell 0 _ rfl
 have k2 := LA.cell 1 _ rfl
 have k3 := LA.cell 2 _ rfl
 have k4 := LA.cell 3 _ rfl
 have Q := (Below.refl w.heap.size w)
 have Q := Q.alloc Q.size (.cells #[.int .u64 (za 0), .int .u64 (za 1), .int .u64 (za 2), .int .u64 (za 3)] 24)
 go_wp2_with fail
 clear k1 k2 k3 k4
 obtain ⟨W1, hW1⟩ : ∃ W1, (w.alloc (.cells #[.int .u64 (za 0), .int .u64 (za 1), .int .u64 (za 2), .int .u64 (za 3)] 24)) = W1 := ⟨_, rfl⟩
 rw [hW1] at LA Q ⊢
 clear hW1
 refine (Hh1.out _).mono ?_
 rintro e v5 ⟨rfl, q⟩
 have LA := LA.later q
 have Q := Q.trans (q.mono Q.size)
 clear q
 clear LA
 go_wp2
 go_ret2
 exact ⟨rfl, Q⟩
theorem piece_is (s r p : ByteArray) (za : Nat → Int) (n f mm : Nat) (v : Int) (hf : (f : Int) ≤ (s.size : Int)) (hr : s.extract f s.size = r) (hmin : min (n : Int) (r.size : Int) = (mm : Int)) (hmm : (mm : Int) ≤ (r.size : Int)) (hp : r.extract 0 mm = p) (hps : p.size ≤ 70368744177664) (hn : n ≤ 70368744177664) (h1 : Ret Try.prog 31 #[.int .i64 (n : Int), .int .i64 1048576, .func (.func 32) #[] #[]] (.tuple #[.int .i64 v, .bool true])) (h2 : Ret Try.prog 34 #[.agg #[.int .u64 (za 0), .int .u64 (za 1), .int .u64 (za 2), .int .u64 (za 3)], .int .i64 (s.size : Int)] (.int .i64 (f : Int))) :
  Ret Try.prog 28 #[.string s, .agg #[.int .u64 (za 0), .int .u64 (za 1), .int .u64 (za 2), .int .u64 (za 3)], .int .i64 (n : Int)] (.tuple #[.string (fullS p n), .int .i64 0]) := by
 intro w
 have HO := hid (fun W => filled_made p hps n hn W)
 clear hps hn
 have Hh1 := hid h1
 have Hh2 := hid h2
 clear h1 h2
 go_enter Try.func28, Try.ntmps28
 have LA := Has.new w 24 #[.int .u64 (za 0), .int .u64 (za 1), .int .u64 (za 2), .int .u64 (za 3)]
 have k1 := LA.cell 0 _ rfl
 have k2 := LA.cell 1 _ rfl
 have k3 := LA.cell 2 _ rfl
 have k4 := LA.cell 3 _ rfl
 have Q := (Below.refl w.heap.size w)
 have Q := Q.alloc Q.size (.cells #[.int .u64 (za 0), .int .u64 (za 1), .int .u64 (za 2), .int .u64 (za 3)] 24)
 go_wp2_with fail
 clear k1 k2 k3 k4
 obtain ⟨W1, hW1⟩ : ∃ W1, (w.alloc (.cells #[.int .u64 (za 0), .int .u64 (za 1), .int .u64 (za 2), .int .u64 (za 3)] 24)) = W1 := ⟨_, rfl⟩
 rw [hW1] at LA Q ⊢
 clear hW1
 refine (Hh1.out _).mono ?_
 rintro e v5 ⟨rfl, q⟩
 have LA := LA.later q
 have Q := Q.trans (q.mono Q.size)
 clear q
 have k6 := LA.cell 0 _ rfl
 have k7 := LA.cell 1 _ rfl
 have k8 := LA.cell 2 _ rfl
 have k9 := LA.cell 3 _ rfl
 go_wp2_with fail
 clear k6 k7 k8 k9
 refine (Hh2.out _).mono ?_
 rintro e v10 ⟨rfl, q⟩
 have LA := LA.later q
 have Q := Q.trans (q.mono Q.size)
 clear q
 clear LA
 go_wp2_with fail
 refine (filled_any _ _ _).mono ?_
 rintro e w3 ⟨rfl, rfl⟩
 go_wp2_with fail
 refine (HO.out _).mono ?_
 rintro e w4 ⟨rfl, q4⟩
 have Q := Q.trans (q4.mono Q.size)
 go_wp2
 go_ret2
 exact ⟨rfl, Q⟩
def pieceV (s : ByteArray) (a : Nat) (n : Int) : Value := if limB n 1048576 then .tuple #[.string (pieceS s a n.toNat), .int .i64 0] else .tuple #[.string ⟨#[]⟩, .int .i64 1]
theorem piece_ret (s : ByteArray) (hs : s.size ≤ 70368744177664) (a : Nat) (ha : W256 a) (n : Int) : Ret Try.prog 28 #[.string s, wv a, .int .i64 n] (pieceV s a n) := by
 have h1 := limI_ret n 1048576
 unfold pieceV
 cases h : limB n 1048576 with
 | false =>
  rw [h] at h1
  rw [if_neg (by decide)]
  exact piece_not _ _ _ _ h1
 | true =>
  obtain ⟨g0, g1⟩ := limB_true h
  rw [h] at h1
  rw [if_pos rfl]
  obtain ⟨nn, rfl⟩ : ∃ nn : Nat, n = (nn : Int) := ⟨n.toNat, by omega⟩
  rw [Int.toNat_natCast]
  exact piece_is s _ _ _ nn (min a s.size) _ _ (by omega) rfl (by omega) (by omega) rfl (by rw [ByteArray.size_extract, ByteArray.size_extract]; omega) (by omega) h1 (number_ret a s.size ha (by omega))
end
section
def dg (a t : Nat) : Nat := a / 256 ^ t % 256
theorem dg_lt (a t : Nat) : dg a t < 256 := Nat.mod_lt _ (by decide)
theorem dg_lim (a k i : Nat) (hk : k < 4) (hi : i < 8) : (lim a k / 256 ^ i) % 256 = (dg a (8 * k + i) : Int) := by
 unfold dg
 have h : ∀ x : Nat, ((x % 18446744073709551616 : Nat) : Int) / 256 ^ i % 256 = ((x / 256 ^ i % 256 : Nat) : Int) := by
  intro x
  have : i = 0 ∨ i = 1 ∨ i = 2 ∨ i = 3 ∨ i = 4 ∨ i = 5 ∨ i = 6 ∨ i = 7 := by omega
  rcases this with rfl | rfl | rfl | rfl | rfl | rfl | rfl | rfl <;> simp only [Nat.reducePow, Int.reducePow] <;> omega
 match k, hk with
 | 0, _ =>
  show ((a % 18446744073709551616 : Nat) : Int) / 256 ^ i % 256 = _
  rw [h a, Nat.mul_zero, Nat.zero_add]
 | 1, _ =>
  show ((a / 18446744073709551616 % 18446744073709551616 : Nat) : Int) / 256 ^ i % 256 = _
  rw [h, show (18446744073709551616 : Nat) = 256 ^ (8 * 1) by decide, Nat.div_div_eq_div_mul, ← Nat.pow_add]
 | 2, _ =>
  show ((a / 340282366920938463463374607431768211456 % 18446744073709551616 : Nat) : Int) / 256 ^ i % 256 = _
  rw [h, show (340282366920938463463374607431768211456 : Nat) = 256 ^ (8 * 2) by decide, Nat.div_div_eq_div_mul, ← Nat.pow_add]
 | 3, _ =>
  show ((a / 6277101735386680763835789423207666416102355444464034512896 % 18446744073709551616 : Nat) : Int) / 256 ^ i % 256 = _
  rw [h, show (6277101735386680763835789423207666416102355444464034512896 : Nat) = 256 ^ (8 * 3) by decide, Nat.div_div_eq_div_mul, ← Nat.pow_add]
theorem pow_le256 {m n : Nat} (h : m ≤ n) : (256 : Int) ^ m ≤ 256 ^ n := by
 have h1 : 256 ^ m ≤ 256 ^ n := Nat.pow_le_pow_right (by decide) h
 have h2 := Int.ofNat_le.2 h1
 rw [Int.natCast_pow, Int.natCast_pow] at h2
 exact h2
def valI (d : Nat → Int) : Nat → Int
 | 0 => 0
 | n + 1 => valI d n + d n * 256 ^ n
theorem valI_congr (d e : Nat → Int) : ∀ n, (∀ j, j < n → d j = e j) → valI d n = valI e n
 | 0, _ => rfl
 | n + 1, h => by rw [valI, valI, valI_congr d e n (fun j hj => h j (by omega)), h n (by omega)]
theorem valI_add (d : Nat → Int) (m : Nat) : ∀ n, valI d (m + n) = valI d m + valI (fun j => d (m + j)) n * 256 ^ m
 | 0 => by simp [valI]
 | n + 1 => by
  rw [← Nat.add_assoc, valI, valI, valI_add d m n, Int.pow_add, Int.add_mul, ← Int.add_assoc, Int.mul_assoc (d (m + n)), Int.mul_comm ((256 : Int) ^ m) (256 ^ n)]
theorem valI_zero : ∀ n, valI (fun _ => 0) n = 0
 | 0 => rfl
 | n + 1 => by rw [valI, valI_zero n]; simp
theorem valI_bound (d : Nat → Int) (h : ∀ j, 0 ≤ d j ∧ d j < 256) : ∀ n, 0 ≤ valI d n ∧ valI d n < 256 ^ n
 | 0 => by simp [valI]
 | n + 1 => by
  obtain ⟨h1, h2⟩ := valI_bound d h n
  obtain ⟨h3, h4⟩ := h n
  have hp : (0 : Int) < 256 ^ n := Int.pow_pos (by decide)
  rw [valI, Int.pow_succ]
  generalize (256 : Int) ^ n = M at *
  have e1 : 0 ≤ d n * M := Int.mul_nonneg h3 (Int.le_of_lt hp)
  have e2 : (d n + 1) * M ≤ 256 * M := Int.mul_le_mul_of_nonneg_right (by omega) (Int.le_of_lt hp)
  rw [Int.add_mul] at e2
  constructor <;> omega
def hor (d : Nat → Int) (p : Nat) : Nat → Int
 | 0 => 0
 | m + 1 => hor d p m * 256 + d (8 * p + 7 - m)
theorem hor_bound (d : Nat → Int) (p : Nat) (h : ∀ j, 0 ≤ d j ∧ d j < 256) : ∀ m, 0 ≤ hor d p m ∧ hor d p m < 256 ^ m
 | 0 => by simp [hor]
 | m + 1 => by
  obtain ⟨h1, h2⟩ := hor_bound d p h m
  obtain ⟨h3, h4⟩ := h (8 * p + 7 - m)
  rw [hor, Int.pow_succ]
  constructor <;> omega
theorem hor_none (d : Nat → Int) (p n : Nat) (hz : ∀ j, n ≤ j → d j = 0) : ∀ m, m ≤ 8 → n + m ≤ 8 * p + 8 → hor d p m = 0
 | 0, _, _ => rfl
 | m + 1, h, h2 => by rw [hor, hor_none d p n hz m (by omega) (by omega), hz _ (by omega)]; rfl
theorem hor_eight (d : Nat → Int) (p : Nat) : hor d p 8 = valI (fun j => d (8 * p + j)) 8 := by
 simp only [hor, valI, Nat.sub_zero, Int.pow_zero, Int.reducePow, Nat.reduceSub]
 rw [show 8 * p + 7 - 1 = 8 * p + 6 by omega, show 8 * p + 7 - 2 = 8 * p + 5 by omega, show 8 * p + 7 - 3 = 8 * p + 4 by omega, show 8 * p + 7 - 4 = 8 * p + 3 by omega, show 8 * p + 7 - 5 = 8 * p + 2 by omega, show 8 * p + 7 - 6 = 8 * p + 1 by omega, show 8 * p + 7 - 7 = 8 * p by omega]
 simp only [Nat.add_zero]
 omega
def fdAt (d : Nat → Int) (k p : Nat) : Int := hor d p (min 8 (8 * p + 8 - k))
theorem fdAt_step (d : Nat → Int) (i : Nat) (p : Nat) (hp : p = i / 8) : fdAt d i = fun j => if j = p then fdAt d (i + 1) p * 256 + d i else fdAt d (i + 1) j := by
 funext j
 unfold fdAt
 by_cases h : j = p
 ·subst h
  rw [if_pos rfl, show min 8 (8 * j + 8 - i) = (8 * j + 7 - i) + 1 by omega, show min 8 (8 * j + 8 - (i + 1)) = 8 * j + 7 - i by omega, hor, show 8 * j + 7 - (8 * j + 7 - i) = i by omega]
 ·rw [if_neg h]
  congr 1
  omega
theorem fdAt_start (d : Nat → Int) (n : Nat) (hz : ∀ j, n ≤ j → d j = 0) (p : Nat) (hp : p < 4) : fdAt d (min n 32) p = 0 := by
 unfold fdAt
 by_cases h : n ≤ 8 * p + 8
 ·by_cases h2 : min 8 (8 * p + 8 - min n 32) = 8
  ·rw [h2]
   exact hor_none d p n hz 8 (by omega) (by omega)
  ·exact hor_none d p n hz _ (by omega) (by omega)
 ·rw [show min 8 (8 * p + 8 - min n 32) = 0 by omega]; rfl
theorem fdAt_u64 (d : Nat → Int) (h : ∀ j, 0 ≤ d j ∧ d j < 256) (k p : Nat) : U64 (fdAt d k p) := by
 unfold fdAt U64
 obtain ⟨h1, h2⟩ := hor_bound d p h (min 8 (8 * p + 8 - k))
 refine ⟨h1, Int.lt_of_lt_of_le h2 ?_⟩
 have : (256 : Int) ^ (min 8 (8 * p + 8 - k)) ≤ 256 ^ 8 := pow_le256 (by omega)
 exact this
theorem fdAt_room (d : Nat → Int) (h : ∀ j, 0 ≤ d j ∧ d j < 256) (i p : Nat) (hp : p = i / 8) : 0 ≤ fdAt d (i + 1) p ∧ fdAt d (i + 1) p < 72057594037927936 := by
 unfold fdAt
 obtain ⟨h1, h2⟩ := hor_bound d p h (min 8 (8 * p + 8 - (i + 1)))
 refine ⟨h1, Int.lt_of_lt_of_le h2 ?_⟩
 have : (256 : Int) ^ (min 8 (8 * p + 8 - (i + 1))) ≤ 256 ^ 7 := pow_le256 (by omega)
 exact this
theorem fd_parts (d : Nat → Int) (h : ∀ j, 0 ≤ d j ∧ d j < 256) : lim (valI d 32).toNat 0 = fdAt d 0 0 ∧ lim (valI d 32).toNat 1 = fdAt d 0 1 ∧ lim (valI d 32).toNat 2 = fdAt d 0 2 ∧ lim (valI d 32).toNat 3 = fdAt d 0 3 := by
 refine lim_num (fdAt d 0) _ (fdAt_u64 d h 0 0) (fdAt_u64 d h 0 1) (fdAt_u64 d h 0 2) (fdAt_u64 d h 0 3) ?_
 rw [Int.toNat_of_nonneg (valI_bound d h 32).1]
 have e0 : fdAt d 0 0 = valI (fun j => d (8 * 0 + j)) 8 := hor_eight d 0
 have e1 : fdAt d 0 1 = valI (fun j => d (8 * 1 + j)) 8 := hor_eight d 1
 have e2 : fdAt d 0 2 = valI (fun j => d (8 * 2 + j)) 8 := hor_eight d 2
 have e3 : fdAt d 0 3 = valI (fun j => d (8 * 3 + j)) 8 := hor_eight d 3
 have f1 := valI_add d 24 8
 have f2 := valI_add d 16 8
 have f3 := valI_add d 8 8
 have f4 : valI d 8 = fdAt d 0 0 := by
  rw [e0]; exact valI_congr _ _ 8 (fun j _ => by rw [Nat.mul_zero, Nat.zero_add])
 unfold num
 rw [show valI d 32 = valI d (24 + 8) from rfl, f1, show valI d 24 = valI d (16 + 8) from rfl, f2, show valI d 16 = valI d (8 + 8) from rfl, f3, f4, e1, e2, e3]
 rfl
end
section
open Go Go.RowKit Go.Shelf
attribute [local go_sem] Oper.semAt_some Grows wide_fn
theorem Arr4.mk0' (W : World) (t : TypeId) : Arr4 (W.alloc (.cells #[.int .u64 0, .int .u64 0, .int .u64 0, .int .u64 0] t)) W.heap.size t (fun _ => 0) := World.alloc_heap_new W _
theorem Arr4.later' {W W' : World} {B : Nat} {t : TypeId} {m : Nat → Int} (h : Arr4 W B t m) (hb : Below W.heap.size W W') : Arr4 W' B t m := h.below hb h.lt
theorem Arr4.same4 {W : World} {B : Nat} {t : TypeId} {m m' : Nat → Int} (h : Arr4 W B t m) (h0 : m 0 = m' 0) (h1 : m 1 = m' 1) (h2 : m 2 = m' 2) (h3 : m 3 = m' 3) : Arr4 W B t m' := by
 unfold Arr4 at *
 rw [h, h0, h1, h2, h3]
def IntsAt (W : World) (g n : Nat) (d : Nat → Int) : Prop := ∃ cur, W.heap[g]? = some (.cells cur 3 (0, 0)) ∧ ∀ j, j < n → cur[j]? = some (.int .i64 (d j))
theorem IntsAt.lt {W : World} {g n : Nat} {d : Nat → Int} (h : IntsAt W g n d) : g < W.heap.size := by
 obtain ⟨cur, h1, _⟩ := h
 exact (Array.getElem?_eq_some_iff.1 h1).1
theorem IntsAt.cell {W : World} {g n : Nat} {d : Nat → Int} (h : IntsAt W g n d) {j : Nat} (hj : j < n) : W.cell? ⟨g, j, none⟩ = some (.int .i64 (d j)) := by
 obtain ⟨cur, h1, h2⟩ := h
 simp [World.cell?, h1, h2 j hj]
theorem IntsAt.kept {W W' : World} {row : Option Nat} {g n : Nat} {d : Nat → Int} (h : IntsAt W g n d) (hg : W.grownBy W' row) (hne : some g ≠ row) : IntsAt W' g n d := by
 have hl := h.lt
 obtain ⟨cur, h1, h2⟩ := h
 exact ⟨cur, (hg.block g hl hne).trans h1, h2⟩
theorem IntsAt.below {W W' : World} {g n m : Nat} {d : Nat → Int} (h : IntsAt W g n d) (hb : Below m W W') (hlt : g < m) : IntsAt W' g n d := by
 obtain ⟨cur, h1, h2⟩ := h
 exact ⟨cur, (hb.block g hlt).trans h1, h2⟩
theorem IntsAt.later {W W' : World} {g n : Nat} {d : Nat → Int} (h : IntsAt W g n d) (hb : Below W.heap.size W W') : IntsAt W' g n d := h.below hb h.lt
theorem IntsAt.alloc {W : World} {g n : Nat} {d : Nat → Int} (h : IntsAt W g n d) (o : Obj) : IntsAt (W.alloc o) g n d := h.kept (World.grownBy_alloc W o none) (by simp)
theorem IntsAt.other {W : World} {g n : Nat} {d : Nat → Int} (h : IntsAt W g n d) {p : Addr} (hne : g ≠ p.block) (v : Value) : IntsAt (W.setCell p v) g n d := by
 obtain ⟨cur, h1, h2⟩ := h
 exact ⟨cur, (Below.heap_setCell W p v g hne).trans h1, h2⟩
theorem IntsAt.of_row {W : World} {base n g cap : Nat} {d : Nat → Int} {xs : List Value} (h : W.ownsRow base 3 1 (.slice (some ⟨g, 0, none⟩) n cap) n xs) (hx : ∀ j, j < n → xs[j]? = some (.int .i64 (d j))) : base ≤ g ∧ IntsAt W g n d := by
 rcases h.2 with ⟨h1, _⟩ | ⟨g', cap', cur, h1, hb, hg, _, _, _, ht⟩
 ·cases h1
 ·injection h1 with e1 _ _
  injection e1 with e2
  injection e2 with e3 _ _
  subst e3
  refine ⟨hb, cur, hg, fun j hj => ?_⟩
  have := hx j hj
  rw [← ht, List.getElem?_take] at this
  split at this
  ·simpa using this
  ·cases this
theorem cell_one (w : World) (x : Value) (t : TypeId) : ∀ j u, [x][j]? = some u → (w.alloc (.cells #[x] t)).cell? ((⟨w.heap.size, 0, none⟩ : Addr).add j) = some u := by
 intro j u hj
 match j, hj with
 | 0, hj =>
  simp at hj
  subst hj
  show (w.alloc (.cells #[x] t)).cell? ⟨w.heap.size, 0, none⟩ = some x
  simp only [World.cell?, show (w.alloc (.cells #[x] t)).heap[w.heap.size]? = _ from World.alloc_heap_new w _]
  rfl
 | j + 1, hj => simp at hj
theorem infoI : (Try.prog.info? 3).map (fun i => (i.zero, i.size, i.bytes)) = some (some (.int .i64 0), 1, 8) := by kernel_rfl
def dgsV (a n : Nat) : List Value := (List.range n).map fun j => Value.int .i64 (dg a j : Int)
theorem dgsV_succ (a n : Nat) : dgsV a (n + 1) = dgsV a n ++ [.int .i64 (dg a n : Int)] := by simp [dgsV, List.range_succ]
def dvAt (a p : Nat) : Nat → Int
 | 0 => lim a p
 | q + 1 => dvAt a p q / 256
theorem dvAt_eq (a p : Nat) : ∀ q, dvAt a p q = lim a p / 256 ^ q
 | 0 => by simp [dvAt]
 | q + 1 => by
  rw [dvAt, dvAt_eq a p q, Int.pow_succ, Int.ediv_ediv_of_nonneg (Int.le_of_lt (Int.pow_pos (by decide)))]
theorem dvAt_u64 (a p : Nat) : ∀ q, U64 (dvAt a p q)
 | 0 => lim_u64 a p
 | q + 1 => by have := dvAt_u64 a p q; unfold U64 at *; unfold dvAt; omega
theorem dvAt_digit (a p q : Nat) (hp : p < 4) (hq : q < 8) : dvAt a p q % 256 = (dg a (8 * p + q) : Int) := by rw [dvAt_eq, dg_lim a p q hp hq]
theorem digits_any (a : Nat) (w : World) : Calls Try.prog 47 #[wv a] w fun e w' => ∃ g cap, e = .returned (.slice (some ⟨g, 0, none⟩) 32 cap) ∧ w.heap.size ≤ g ∧ IntsAt w' g 32 (fun j => (dg a j : Int)) ∧ Below w.heap.size w w' := by
 have A0 := Arr4.word w 24 a
 have B0 := (Below.refl _ w).alloc (Nat.le_refl _) (.cells #[.int .u64 (lim a 0), .int .u64 (lim a 1), .int .u64 (lim a 2), .int .u64 (lim a 3)] 24)
 unfold wv
 go_enter Try.func47, Try.ntmps47
 go_wp2
 have R0 := World.ownsRow_nil (w.alloc (.cells #[.int .u64 (lim a 0), .int .u64 (lim a 1), .int .u64 (lim a 2), .int .u64 (lim a 3)] 24)) (w.heap.size + 1) 3 1
 have hs0 : w.heap.size + 1 ≤ (w.alloc (.cells #[.int .u64 (lim a 0), .int .u64 (lim a 1), .int .u64 (lim a 2), .int .u64 (lim a 3)] 24)).heap.size := by simp
 obtain ⟨W0, hW0⟩ : ∃ W0, w.alloc (.cells #[.int .u64 (lim a 0), .int .u64 (lim a 1), .int .u64 (lim a 2), .int .u64 (lim a 3)] 24) = W0 := ⟨_, rfl⟩
 rw [hW0] at A0 B0 R0 hs0 ⊢
 clear hW0
 go_loopw [3, 4] (fun t i wr => ∃ p : Nat, p ≤ 4 ∧ i = .int .i64 (p : Int) ∧ Arr4 wr w.heap.size 24 (lim a) ∧ wr.ownsRow (w.heap.size + 1) 3 1 t (8 * p) (dgsV a (8 * p)) ∧ Below w.heap.size w wr ∧ w.heap.size + 1 ≤ wr.heap.size) (fun _ i _ => 4 - (intOf i).toNat)
 case atStart => exact ⟨0, by omega, rfl, A0, R0, B0, hs0⟩
 case round =>
  obtain ⟨p, hp, rfl, aw, hown, hB, hsz⟩ := hrel
  clear A0 B0 R0 hs0
  by_cases hlt : p < 4
  ·have hpI : (p : Int) < 4 := by omega
   have hp0 : (0 : Int) ≤ (p : Int) := by omega
   have cp := aw.cell hlt
   have HP := Lib.hid hlt
   clear hp hlt
   obtain ⟨wo, rfl⟩ : ∃ wo : World, wo = wr := ⟨_, rfl⟩
   go_wp2
   go_loopw [3, 5, 6] (fun t x k wr => ∃ q : Nat, q ≤ 8 ∧ k = .int .i64 (q : Int) ∧ x = .int .u64 (dvAt a p q) ∧ Arr4 wr w.heap.size 24 (lim a) ∧ wr.ownsRow (w.heap.size + 1) 3 1 t (8 * p + q) (dgsV a (8 * p + q)) ∧ Below w.heap.size w wr ∧ w.heap.size + 1 ≤ wr.heap.size) (fun _ _ k _ => 8 - (intOf k).toNat)
   case atStart => exact ⟨0, by omega, rfl, rfl, aw, hown, hB, hsz⟩
   case round =>
    obtain ⟨q, hq, rfl, rfl, aw, hown, hB, hsz⟩ := hrel
    by_cases hlt : q < 8
    ·have hqI : (q : Int) < 8 := by omega
     have hq0 : (0 : Int) ≤ (q : Int) := by omega
     have hd := dvAt_digit a p q HP.out hlt
     have hu := dvAt_u64 a p q
     have hn : dvAt a p (q + 1) = dvAt a p q / 256 := rfl
     have HN := Lib.hid hn
     have HD := Lib.hid (dgsV_succ a (8 * p + q))
     have hb := dg_lt a (8 * p + q)
     have HQ := Lib.hid hlt
     have AW := Lib.hid aw
     have HO := Lib.hid hown
     have HB := Lib.hid hB
     have HZ := Lib.hid hsz
     obtain ⟨hu0, hu1⟩ := hu
     generalize dvAt a p q = y at *
     have e1 : y.tmod 256 = (dg a (8 * p + q) : Int) := by rw [Int.tmod_eq_emod_of_nonneg hu0, hd]
     have e2 : y.tdiv 256 = y / 256 := Int.tdiv_eq_ediv_of_nonneg hu0
     have hb0 : (0 : Int) ≤ (dg a (8 * p + q) : Int) := by omega
     have hb1 : (dg a (8 * p + q) : Int) < 256 := by omega
     have hy0 : 0 ≤ y / 256 := by omega
     have hy1 : y / 256 < 18446744073709551616 := by omega
     have hcap : 8 * p + q < 32 := by have := HP.out; omega
     generalize (dg a (8 * p + q) : Int) = b at *
     generalize hnE : 8 * p + q = n at *
     have HE := Lib.hid hnE
     clear hnE
     obtain ⟨i0, hi, hz0, hz1, hz2⟩ := info_parts infoI
     clear hq hlt hd hn hb aw hown hB hsz
     go_wp2_with (at_builtin; refine wpList_append_own _ rfl _ _ 38 rfl (w.heap.size + 1) 3 i0 (.int .i64 0) 1 8 Try.underlying38 hi hz0 hz1 hz2 rfl (by decide) _ _ _ rfl (HO.out.alloc _) ⟨wr.heap.size, 0, none⟩ 1 1 [.int .i64 b] rfl rfl (cell_one _ _ _) (by simp [Value.oneCell']) (by unfold maxLen; omega) (by omega) (by have := HZ.out; simp; omega) ?_; intro v' w3 hown' hgrow hnil)
     clear hi hz0 hz1 hz2
     go_wp2
     go_roundw
     case rel =>
      have hxs3 := hgrow.size
      have hltA := AW.out.lt
      have hzz := HZ.out
      refine ⟨q + 1, HQ.out, by simp, by rw [HN.out], ?_, ?_, ?_, by simp at hxs3; omega⟩
      ·exact (AW.out.alloc _).kept hgrow (fun e => by have := (HO.out.alloc (.cells #[.int .i64 b] 3)).lt _ e.symm; omega)
      ·rw [show 8 * p + (q + 1) = n + 1 by have := HE.out; omega, HD.out]; exact hown'
      ·exact (HB.out.alloc (by omega) _).grown hgrow (by simp; omega) (fun j e => by have := (HO.out.alloc (.cells #[.int .i64 b] 3)).lt j e; omega)
     case measure => have := HQ.out; simp [intOf]; omega
    ·obtain rfl : q = 8 := by omega
     have HO := Lib.hid hown
     clear hq hlt hown
     have HA := Lib.hid aw
     have HB := Lib.hid hB
     have HZ := Lib.hid hsz
     clear aw hB hsz
     go_wp2
     go_roundw
     case rel => exact ⟨p + 1, HP.out, by simp, HA.out, HO.out, HB.out, HZ.out⟩
     case measure => have := HP.out; simp [intOf]; omega
  ·obtain rfl : p = 4 := by omega
   obtain ⟨g, cap, rfl⟩ := ownsRow_succ (k := 31) hown
   have hx := IntsAt.of_row (d := fun j => (dg a j : Int)) hown (fun j hj => by simp [dgsV, hj])
   have HX := Lib.hid hx
   have HB := Lib.hid hB
   clear hp hlt hown aw hB hsz hx
   go_wp2
   go_ret
   exact ⟨g, cap, rfl, by have := HX.out.1; omega, HX.out.2, HB.out⟩
end
end Go.Proofs.Ytpolmfmlklmmcaa
