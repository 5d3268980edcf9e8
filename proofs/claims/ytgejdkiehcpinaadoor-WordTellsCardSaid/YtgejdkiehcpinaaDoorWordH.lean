/- The iterator over a text's pieces. For every text that is not beyond the model's reach. -/
import Derived.Test.YtgejdkiehcpinaaDoorWordG
namespace Go.Proofs.YtgejdkiehcpinaaDoor
open Go Go.RowKit Go.Shelf
attribute [local go_sem] Oper.semAt_some wide_fn

/-- Piece k of a text. -/
def piece (s : ByteArray) (k : Nat) : ByteArray := s.extract (7 * k) (min (7 * k + 7) s.size)

set_option maxRecDepth 100000 in
set_option maxHeartbeats 2000000 in
theorem pieces_seq (n : Nat) (hn : 1 ≤ n) (Bs : Nat) (s : ByteArray) (hs : s.size ≤ 140737488355328) (w : World) (hBs : Bs < w.heap.size) (hcB : w.cell? ⟨Bs, 0, none⟩ = some (.string s)) :
    SeqN Fence.wide n Tryd.prog 70 #[.pointer (some ⟨Bs, 0, none⟩)] (fun k => #[.string (piece s k)]) (KeepsAt [Bs]) ((s.size + 6) / 7) w := by
  intro l J Jx W hW _ _ hY h0
  have hBs' := (hW.cell (p := ⟨Bs, 0, none⟩) hBs).trans hcB
  clear hcB
  refine callsIn_of_wp Tryd.func70 rfl trivial ?_ rfl
  simp only [Tryd.ntmps70, List.size_toArray, List.length_cons, List.length_nil, Nat.reduceAdd, Nat.reduceSub, Array.replicate_succ, Array.replicate_zero, List.push_toArray, List.append_toArray, List.nil_append, List.cons_append]
  gi_wp2
  gi_loopw [3] (fun i wr => ∃ k q : Nat, k ≤ (s.size + 6) / 7 ∧ Hid (q = 7 * k) ∧ i = .int .i64 (q : Int) ∧ J k wr ∧ KeepsAt [Bs] W wr)
    (fun i _ => (s.size + 6) / 7 * 7 - (intOf i).toNat)
  case atStart => exact ⟨0, 0, Nat.zero_le _, rfl, rfl, h0, KeepsAt.refl _ _⟩
  case round =>
    obtain ⟨k, q, hk, hq, rfl, hJs, hnx⟩ := hrel
    have hbx : wr.cell? ⟨Bs, 0, none⟩ = some (.string s) := (hnx.cell (p := ⟨Bs, 0, none⟩) (by simp)).trans hBs'
    clear hBs'
    by_cases hlt : q < s.size
    · have hkN : k < (s.size + 6) / 7 := by have := hq.out; omega
      have HK := Lib.hid hkN
      obtain ⟨fn, tmps, assign, body, hy, hR⟩ := hY k wr hkN hJs
      clear hkN hY
      by_cases hfull : q + 7 ≤ s.size
      · have hp : piece s k = s.extract q (q + 7) := by have := hq.out; unfold piece; rw [← this, Nat.min_eq_left hfull]
        rw [hp] at hy
        clear hp
        have z1 : (q : Int) + 7 ≤ (s.size : Int) := by omega
        have z0 : (0 : Int) ≤ (q : Int) := by omega
        have z2 : (q : Int) ≤ (q : Int) + 7 := by omega
        have z3 : (0 : Int) ≤ (q : Int) + 7 := by omega
        gi_wp2
        refine hR.mono ?_
        rintro e W3 (⟨rfl, hJ3, hk3⟩ | ⟨rfl, hJx3⟩)
        · gi_wp2
          go_roundw
          case rel => exact ⟨k + 1, q + 7, by have := hq.out; omega, by have := hq.out; show q + 7 = 7 * (k + 1); omega, by simp, hJ3, hnx.trans hk3⟩
          case measure => have := hq.out; simp [intOf]; omega
        · gi_wp2
          refine bodyPost_ret (results_none rfl _ _ _) rfl ?_
          exact ⟨⟨_, rfl⟩, .inr ⟨k, HK.out, hJx3⟩⟩
      · have hp : piece s k = s.extract q s.size := by have := hq.out; unfold piece; rw [← this, Nat.min_eq_right (by omega)]
        rw [hp] at hy
        clear hp
        have z1 : (s.size : Int) < (q : Int) + 7 := by omega
        have z4 : (s.size : Int) ≤ (q : Int) + 7 := by omega
        have z5 : (q : Int) + 7 ≤ 1000000000000000 := by omega
        have z0 : (0 : Int) ≤ (q : Int) := by omega
        have z2 : (q : Int) ≤ (s.size : Int) := by omega
        have z3 : (0 : Int) ≤ (s.size : Int) := by omega
        gi_wp2
        refine hR.mono ?_
        rintro e W3 (⟨rfl, hJ3, hk3⟩ | ⟨rfl, hJx3⟩)
        · gi_wp2
          go_roundw
          case rel => exact ⟨k + 1, q + 7, by have := hq.out; omega, by have := hq.out; show q + 7 = 7 * (k + 1); omega, by simp, hJ3, hnx.trans hk3⟩
          case measure => have := hq.out; simp [intOf]; omega
        · gi_wp2
          refine bodyPost_ret (results_none rfl _ _ _) rfl ?_
          exact ⟨⟨_, rfl⟩, .inr ⟨k, HK.out, hJx3⟩⟩
    · have hk2 : k = (s.size + 6) / 7 := by have := hq.out; omega
      have HJ : Hid (J ((s.size + 6) / 7) wr) := by rw [← hk2]; exact hJs
      clear hJs hk2 hY
      gi_wp2
      go_end0
      exact ⟨⟨_, rfl⟩, .inl HJ.out⟩

theorem pieces_any (s : ByteArray) (w : World) :
    Calls Tryd.prog 60 #[.string s] w fun e w' => e = .returned (.func (.func 70) #[] #[.pointer (some ⟨w.heap.size, 0, none⟩)]) ∧ w' = w.alloc (.cells #[.string s] 9) := by
  go_enter Tryd.func60, Tryd.ntmps60
  go_wp2
  go_ret
  exact ⟨rfl, rfl⟩
end Go.Proofs.YtgejdkiehcpinaaDoor
