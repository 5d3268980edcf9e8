/- The iterator over a word's four parts, told by the number of rounds. Condition: the pointer leads to an array of four numbers that the loop's body leaves alone. -/
import Derived.Test.YtbkgipggblphlaaParts
import Derived.Test.YtbkgipggblphlaaSeq
namespace Go.Proofs.Ytbkgipggblphlaa
open Go Go.RowKit Go.Shelf
attribute [local go_sem] Oper.semAt_some

set_option maxRecDepth 100000 in
set_option maxHeartbeats 2000000 in
theorem parts_seq (n : Nat) (hn : 1 ≤ n) (Bs b : Nat) (z : Nat → Int) (w : World) (hBs : Bs < w.heap.size) (hb : b < w.heap.size)
    (hcB : w.cell? ⟨Bs, 0, none⟩ = some (.pointer (some ⟨b, 0, none⟩))) (hc : ∀ j, j < 4 → w.cell? ⟨b, j, none⟩ = some (.int .u64 (z j))) :
    SeqN Fence.wide n Try.prog 65 #[.pointer (some ⟨Bs, 0, none⟩)] (fun k => #[.int .i64 (k : Int), .int .u64 (z k)]) (KeepsAt [b, Bs]) 4 w := by
  intro l J Jx W hW _ _ hY h0
  have hBs' := (hW.cell (p := ⟨Bs, 0, none⟩) hBs).trans hcB
  have hc' : ∀ j, j < 4 → W.cell? ⟨b, j, none⟩ = some (.int .u64 (z j)) := fun j hj => (hW.cell (p := ⟨b, j, none⟩) hb).trans (hc j hj)
  clear hcB hc
  refine callsIn_of_wp Try.func65 rfl trivial ?_ rfl
  simp only [Try.ntmps65, List.size_toArray, List.length_cons, List.length_nil, Nat.reduceAdd, Nat.reduceSub, Array.replicate_succ, Array.replicate_zero, List.push_toArray, List.append_toArray, List.nil_append, List.cons_append]
  gi_wp2
  gi_loopw [4] (fun i wr => ∃ k : Nat, k ≤ 4 ∧ i = .int .i64 k ∧ J k wr ∧ KeepsAt [b, Bs] W wr)
    (fun i _ => 4 - (intOf i).toNat)
  case atStart => exact ⟨0, Nat.zero_le _, rfl, h0, KeepsAt.refl _ _⟩
  case round =>
    obtain ⟨k, hk, rfl, hJs, hnx⟩ := hrel
    by_cases hlt : k < 4
    · obtain ⟨fn, tmps, assign, body, hy, hR⟩ := hY k wr hlt hJs
      have hcx : wr.cell? ⟨b, k, none⟩ = some (.int .u64 (z k)) := (hnx.cell (p := ⟨b, k, none⟩) (by simp)).trans (hc' k hlt)
      have hbx : wr.cell? ⟨Bs, 0, none⟩ = some (.pointer (some ⟨b, 0, none⟩)) := (hnx.cell (p := ⟨Bs, 0, none⟩) (by simp)).trans hBs'
      clear hc' hBs'
      gi_wp2
      refine hR.mono ?_
      rintro e W3 (⟨rfl, hJ3, hk3⟩ | ⟨rfl, hJx3⟩)
      · gi_wp2
        go_roundw
        case rel => exact ⟨k + 1, by omega, by simp, hJ3, hnx.trans hk3⟩
        case measure => simp [intOf]; omega
      · gi_wp2
        refine bodyPost_ret (results_none rfl _ _ _) rfl ?_
        exact ⟨⟨_, rfl⟩, .inr ⟨k, hlt, hJx3⟩⟩
    · obtain rfl : k = 4 := by omega
      gi_wp2
      go_end0
      exact ⟨⟨_, rfl⟩, .inl hJs⟩
end Go.Proofs.Ytbkgipggblphlaa
