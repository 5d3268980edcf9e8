/- slices.Chunk over bytes, and a block's bytes added to lanes. -/
import Derived.Test.YtobdjakflknlcaaDoorKecH
namespace Go.Proofs.YtobdjakflknlcaaDoor
open Go Go.RowKit Go.Shelf
attribute [local go_sem] Oper.semAt_some Grows wide_fn field0

theorem lt_of_cell {W : World} {b j : Nat} {v : Value} (h : W.cell? ⟨b, j, none⟩ = some v) : b < W.heap.size := by
  rcases Nat.lt_or_ge b W.heap.size with h' | h'
  · exact h'
  · simp [World.cell?, Array.getElem?_eq_none h'] at h

set_option maxRecDepth 100000 in
theorem chunk_any (g n cap : Nat) (w : World) :
    Calls Tryd.prog 21 #[.slice (some ⟨g, 0, none⟩) n cap, .int .i64 136] w fun e w' => e = .returned (.func (.func 32) #[] #[.pointer (some ⟨w.heap.size, 0, none⟩), .pointer (some ⟨w.heap.size + 1, 0, none⟩)]) ∧ w' = (w.alloc (.cells #[.slice (some ⟨g, 0, none⟩) n cap] 27)).alloc (.cells #[.int .i64 136] 3) := by
  have L := (Has.new (w.alloc (.cells #[.slice (some ⟨g, 0, none⟩) n cap] 27)) 3 #[.int .i64 136])
  simp only [World.size_alloc] at L
  have k0 := L.cell 0 _ rfl
  clear L
  go_enter Tryd.func21, Tryd.ntmps21
  go_wp2
  go_ret
  exact ⟨rfl, rfl⟩

set_option maxRecDepth 100000 in
set_option maxHeartbeats 2000000 in
theorem chunk_seq (n : Nat) (hn : 1 ≤ n) (N g cap b c : Nat) (hN : N ≤ 7895160) (hcap : 136 * N ≤ cap) (hmax : cap ≤ 9223372036854775807) (w : World) (hb : b < w.heap.size) (hcl : c < w.heap.size)
    (kb : w.cell? ⟨b, 0, none⟩ = some (.slice (some ⟨g, 0, none⟩) (136 * N) cap)) (kc : w.cell? ⟨c, 0, none⟩ = some (.int .i64 136)) :
    SeqN Fence.wide n Tryd.prog 32 #[.pointer (some ⟨b, 0, none⟩), .pointer (some ⟨c, 0, none⟩)] (fun k => #[.slice (some ⟨g, 136 * k, none⟩) 136 136]) (KeepsAt [b, c]) N w := by
  intro l J Jx W hW hJA _ hY h0
  have HA := Lib.hid hJA
  have HY := Lib.hid hY
  clear hJA hY
  have kb' := (hW.cell (p := ⟨b, 0, none⟩) hb).trans kb
  have kc' := (hW.cell (p := ⟨c, 0, none⟩) hcl).trans kc
  clear kb kc
  have hmx : Tryd.prog.follows .mixedOrders = true := by kernel_rfl
  refine callsIn_of_wp Tryd.func32 rfl trivial ?_ rfl
  simp only [Tryd.ntmps32, List.size_toArray, List.length_cons, List.length_nil, Nat.reduceAdd, Nat.reduceSub, Array.replicate_succ, Array.replicate_zero, List.push_toArray, List.append_toArray, List.nil_append, List.cons_append]
  gi_wp2
  gi_loopw [4] (fun i wr => ∃ k : Nat, k ≤ N ∧ i = .int .i64 ((136 * k : Nat) : Int) ∧ J k wr ∧ KeepsAt [b, c] W wr) (fun i _ => 136 * N - (intOf i).toNat)
  case atStart => exact ⟨0, Nat.zero_le _, rfl, h0, KeepsAt.refl _ _⟩
  case round =>
    obtain ⟨k, hk, rfl, hJs, hnx⟩ := hrel
    have kbx := (hnx.cell (p := ⟨b, 0, none⟩) (by simp)).trans kb'
    have kcx := (hnx.cell (p := ⟨c, 0, none⟩) (by simp)).trans kc'
    clear kb' kc'
    by_cases hlt : k < N
    · have hstep : ((136 * (k + 1) : Nat) : Int) = ((136 * k : Nat) : Int) + 136 := by omega
      have h1 : ((136 * k : Nat) : Int) + 136 ≤ ((136 * N : Nat) : Int) := by omega
      have h2 : ((136 * N : Nat) : Int) ≤ (cap : Int) := by omega
      have h3 : (cap : Int) ≤ 9223372036854775807 := by omega
      have HLT := Lib.hid hlt
      have HST := Lib.hid hstep
      have lb := lt_of_cell kbx
      have lc := lt_of_cell kcx
      have HNX := Lib.hid hnx
      have HJ := Lib.hid hJs
      have ex : ∀ x : Ext wr, x.w.cell? ⟨b, 0, none⟩ = some (.slice (some ⟨g, 0, none⟩) (136 * N) cap) := fun x => (x.below.cell (p := ⟨b, 0, none⟩) lb).trans kbx
      have ey : ∀ x : Ext wr, x.w.cell? ⟨c, 0, none⟩ = some (.int .i64 136) := fun x => (x.below.cell (p := ⟨c, 0, none⟩) lc).trans kcx
      have HYk := Lib.hid (HY.out k)
      clear hk hlt hstep hnx hJs
      generalize 136 * N = n1 at *
      generalize 136 * k = i at *
      gi_wp2_with fail
      refine wpIn_region_mix (C := Grows wr) free_wide [some true, some true, some true, some true, some true, some true, none] hmx (by kernel_rfl) (by kernel_rfl) (grows_refl wr) ?_
      simp only [headOf, tailOf]
      repeat (go_big_quiet_step (fail))
      refine wpQuiet_nil ?_
      rintro _ ⟨x, rfl⟩
      have hJ2 := HA.out k wr x.w none HJ.out (grown_of_below x.below none) (fun r e => by cases e)
      have hK2 := Lib.hid (HNX.out.trans (KeepsAt.below (KeepsAt.refl _ _) x.below (fun b' hb' => by simp at hb'; rcases hb' with rfl | rfl <;> assumption)))
      obtain ⟨fn, tmps, assign, body, hy, hR⟩ := HYk.out x.w HLT.out hJ2
      have ex' := ex x
      have ey' := ey x
      clear ex ey hJ2 kbx kcx lb lc
      go_wp2
      rw [calmPost_normal]
      gi_wp2
      refine hR.mono ?_
      rintro e W3 (⟨rfl, hJ3, hk3⟩ | ⟨rfl, hJx3⟩)
      · have ey3 := (hk3.cell (p := ⟨c, 0, none⟩) (by simp)).trans ey'
        have HJ3 := Lib.hid hJ3
        have HK3 := Lib.hid hk3
        clear ex' ey' hk3 hJ3
        gi_wp2
        go_roundw
        case rel => exact ⟨k + 1, HLT.out, by rw [HST.out], HJ3.out, hK2.out.trans HK3.out⟩
        case measure => simp [intOf]; omega
      · gi_wp2
        refine bodyPost_ret (results_none rfl _ _ _) rfl ?_
        exact ⟨⟨_, rfl⟩, .inr ⟨k, HLT.out, hJx3⟩⟩
    · obtain rfl : k = N := by omega
      gi_wp2
      go_end0
      exact ⟨⟨_, rfl⟩, .inl hJs⟩
end Go.Proofs.YtobdjakflknlcaaDoor
