/- Run. For all places, texts and numbers. -/
import Derived.Test.YtnjmhcooejcehaaDoorShaH
namespace Go.Proofs.YtnjmhcooejcehaaDoor
open Go Go.RowKit Go.Shelf
attribute [local go_sem] Oper.semAt_some Grows wide_fn eq4

set_option maxRecDepth 100000 in
set_option maxHeartbeats 4000000 in
theorem run_no (z0 z1 z2 z3 g c : Int) (i : Bool) (s : ByteArray) (hn : i = false ∨ g < c)
    (hC : Ret Tryd.prog 13 #[W4 z0 z1 z2 z3, .int .i64 (s.size : Int)] (.tuple #[.int .i64 c, .bool i])) :
    Ret Tryd.prog 15 #[W4 z0 z1 z2 z3, .string s, .int .i64 g] (.tuple #[.string ⟨#[]⟩, .int .i64 0, .bool false]) := by
  intro w
  have HC := Lib.hid hC
  clear hC
  have L := Has.new w 24 #[.int .u64 z0, .int .u64 z1, .int .u64 z2, .int .u64 z3]
  have Q := (Below.refl w.heap.size w).alloc (Nat.le_refl _) (.cells #[.int .u64 z0, .int .u64 z1, .int .u64 z2, .int .u64 z3] 24)
  have k0 := L.cell 0 _ rfl
  have k1 := L.cell 1 _ rfl
  have k2 := L.cell 2 _ rfl
  have k3 := L.cell 3 _ rfl
  clear L
  cases i with
  | false =>
    go_enter Tryd.func15, Tryd.ntmps15
    go_wp2_with fail
    refine (HC.out _).mono ?_
    rintro e w1 ⟨rfl, q⟩
    have HQ := Lib.hid (Q.trans (q.mono Q.size))
    clear Q q k0 k1 k2 k3
    go_wp2_with fail
    go_ret3
    exact ⟨rfl, HQ.out⟩
  | true =>
    have hn : g < c := by rcases hn with h | h; cases h; exact h
    go_enter Tryd.func15, Tryd.ntmps15
    go_wp2_with fail
    refine (HC.out _).mono ?_
    rintro e w1 ⟨rfl, q⟩
    have HQ := Lib.hid (Q.trans (q.mono Q.size))
    clear Q q k0 k1 k2 k3
    go_wp2_with fail
    go_ret3
    exact ⟨rfl, HQ.out⟩

set_option maxRecDepth 100000 in
set_option maxHeartbeats 4000000 in
theorem run_yes (z0 z1 z2 z3 g c : Int) (b2 : Bool) (s S : ByteArray) (hg : c ≤ g) (hc0 : 0 ≤ c) (hgI : I64 g)
    (hC : Ret Tryd.prog 13 #[W4 z0 z1 z2 z3, .int .i64 (s.size : Int)] (.tuple #[.int .i64 c, .bool true]))
    (h2 : Ret Tryd.prog 24 #[.int .i64 2] (W4 2 0 0 0)) (e2 : (z0 == 2 && z1 == 0 && z2 == 0 && z3 == 0) = b2)
    (hS : RetT Tryd.prog 10 #[.string s] (.tuple #[.string S, .int .i64 0])) :
    RetT Tryd.prog 15 #[W4 z0 z1 z2 z3, .string s, .int .i64 g] (.tuple #[.string (if b2 = true then S else s), .int .i64 (g - c), .bool true]) := by
  intro w HT
  have hmx : Tryd.prog.follows .mixedOrders = true := by kernel_rfl
  have HC := Lib.hid hC
  have H2 := Lib.hid h2
  have HS := Lib.hid hS
  clear hC h2 hS
  have L := Has.new w 24 #[.int .u64 z0, .int .u64 z1, .int .u64 z2, .int .u64 z3]
  have Q := (Below.refl w.heap.size w).alloc (Nat.le_refl _) (.cells #[.int .u64 z0, .int .u64 z1, .int .u64 z2, .int .u64 z3] 24)
  have HT := HT.alloc (.cells #[.int .u64 z0, .int .u64 z1, .int .u64 z2, .int .u64 z3] 24)
  have k0 := L.cell 0 _ rfl
  have k1 := L.cell 1 _ rfl
  have k2 := L.cell 2 _ rfl
  have k3 := L.cell 3 _ rfl
  have HL := Lib.hid L
  clear L
  unfold I64 at hgI
  obtain ⟨g0, g1⟩ := hgI
  have gc0 : -9223372036854775808 ≤ g - c := by omega
  have gc1 : g - c ≤ 9223372036854775807 := by omega
  have hng : ¬ g < c := by omega
  go_enter Tryd.func15, Tryd.ntmps15
  go_wp2_with fail
  refine (HC.out _).mono ?_
  rintro e w1 ⟨rfl, q⟩
  have HQ := Lib.hid (Q.trans (q.mono Q.size))
  have HT1 := Lib.hid (HT.later q)
  have HL1 := HL.out.later q
  clear Q q k0 k1 k2 k3 HT HL
  have k0 : ∀ x : Ext w1, x.w.cell? ⟨w.heap.size, 0, none⟩ = some (.int .u64 z0) := fun x => (HL1.later x.below).cell 0 _ rfl
  have k1 : ∀ x : Ext w1, x.w.cell? ⟨w.heap.size, 1, none⟩ = some (.int .u64 z1) := fun x => (HL1.later x.below).cell 1 _ rfl
  have k2 : ∀ x : Ext w1, x.w.cell? ⟨w.heap.size, 2, none⟩ = some (.int .u64 z2) := fun x => (HL1.later x.below).cell 2 _ rfl
  have k3 : ∀ x : Ext w1, x.w.cell? ⟨w.heap.size, 3, none⟩ = some (.int .u64 z3) := fun x => (HL1.later x.below).cell 3 _ rfl
  clear HL1
  go_wp2_with fail
  refine wp_region_quietL (C := Grows w1) hmx (by kernel_rfl) (grows_refl w1) ?_
  repeat (go_big_quiet_step (first | (with_reducible exact Ret.at H2.out _)))
  refine wpQuiet_nil ?_
  rintro _ ⟨x, rfl⟩
  have HQ2 := Lib.hid (HQ.out.trans (x.below.mono HQ.out.size))
  have HT2 := Lib.hid (HT1.out.later x.below)
  clear k0 k1 k2 k3 HQ HT1
  obtain ⟨w2, hw2⟩ : ∃ w2, x.w = w2 := ⟨_, rfl⟩
  rw [hw2] at HQ2 HT2 ⊢
  clear hw2 x
  cases b2 with
  | false =>
    go_wp2_with fail
    go_ret3
    exact ⟨rfl, HQ2.out⟩
  | true =>
    go_wp2_with fail
    refine (HS.out _ HT2.out).mono ?_
    rintro e w3 ⟨rfl, q⟩
    have HQ3 := Lib.hid (HQ2.out.trans (q.mono HQ2.out.size))
    clear q HQ2 HT2
    go_wp2_with fail
    go_ret3
    exact ⟨rfl, HQ3.out⟩
end Go.Proofs.YtnjmhcooejcehaaDoor
