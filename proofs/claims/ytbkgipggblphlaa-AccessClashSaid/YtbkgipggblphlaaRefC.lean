/- Words of ints, and the order of words: the document's own answer. For every int and word. -/
import Derived.Test.YtbkgipggblphlaaRefB
namespace Go.Proofs.Ytbkgipggblphlaa
open Go Go.RowKit Go.Shelf
attribute [local go_sem] Oper.semAt_some Grows wide_fn

/-! ### Of -/
set_option maxRecDepth 100000 in
set_option maxHeartbeats 1000000 in
theorem refOf_ret (n : Int) (h : I64 n) : Ret Try.prog 8 #[.int .i64 n] (wv (ofN n)) := by
  intro w
  have hI := h
  unfold I64 at h
  by_cases hn : n < 0
  · rw [wv_of (of_neg n hI hn)]
    have hw : IntKind.u64.wrap n = 18446744073709551616 + n := by rw [IntKind.wrap_u64]; omega
    have h1 : -9223372036854775808 ≤ n := h.1
    obtain ⟨x, hx⟩ : ∃ x, x = 18446744073709551616 + n := ⟨_, rfl⟩
    rw [← hx] at hw ⊢
    have hx0 : 0 ≤ x := by omega
    have hx1 : x < 18446744073709551616 := by omega
    clear h hI hx
    go_enter Try.func8, Try.ntmps8
    go_wp2
    have A1 := (Arr4.mk0' w 29).alloc (.cells #[.int .u64 x, .int .u64 0, .int .u64 0, .int .u64 0] 29)
    have A2 := Arr4.new (w.alloc (.cells #[.int .u64 0, .int .u64 0, .int .u64 0, .int .u64 0] 29)) 29 x 0 0 0
    have B0 := ((Below.refl _ w).alloc (Nat.le_refl _) (.cells #[.int .u64 0, .int .u64 0, .int .u64 0, .int .u64 0] 29)).alloc (by simp) (.cells #[.int .u64 x, .int .u64 0, .int .u64 0, .int .u64 0] 29)
    rw [World.size_alloc] at A2
    obtain ⟨W0, hW0⟩ : ∃ W0, (w.alloc (.cells #[.int .u64 0, .int .u64 0, .int .u64 0, .int .u64 0] 29)).alloc (.cells #[.int .u64 x, .int .u64 0, .int .u64 0, .int .u64 0] 29) = W0 := ⟨_, rfl⟩
    rw [hW0] at A1 A2 B0 ⊢
    clear hW0
    go_loopw [4] (fun i wr => ∃ k : Nat, 1 ≤ k ∧ k ≤ 4 ∧ i = .int .i64 (k : Int) ∧ Arr4 wr w.heap.size 29 (fun _ => 0) ∧ Arr4 wr (w.heap.size + 1) 29 (fun j => if j = 0 then x else if j < k then 18446744073709551615 else 0) ∧ Below w.heap.size w wr) (fun i _ => 4 - (intOf i).toNat)
    case atStart => exact ⟨1, by omega, by omega, rfl, A1, A2.same4 rfl rfl rfl rfl, B0⟩
    case round =>
      obtain ⟨k, hk1, hk, rfl, a1, a2, hB⟩ := hrel
      clear A1 A2 B0
      by_cases hlt : k < 4
      · have hkI : (k : Int) < 4 := by omega
        have hk0 : (0 : Int) ≤ (k : Int) := by omega
        have fp := a2.frozen k
        have cp := a2.cell hlt
        have N1 := Lib.hid (a1.other (p := ⟨w.heap.size + 1, k, none⟩) (by simp) (.int .u64 18446744073709551615))
        have N2 := Lib.hid (a2.set hlt 18446744073709551615)
        have N3 := Lib.hid (hB.setCell (p := ⟨w.heap.size + 1, k, none⟩) (by simp) (.int .u64 18446744073709551615))
        have HK := Lib.hid (And.intro hk1 hlt)
        clear hk1 hk hlt a1 a2 hB
        go_wp2
        go_roundw
        case rel =>
          have hk := HK.out
          refine ⟨k + 1, by omega, by omega, by simp, N1.out, ?_, N3.out⟩
          have e : (fun j => if j = 0 then x else if j < k + 1 then (18446744073709551615 : Int) else 0) = (fun j => if j = k then 18446744073709551615 else if j = 0 then x else if j < k then 18446744073709551615 else 0) := by
            funext j
            by_cases e1 : j = k
            · rw [if_pos e1, if_neg (by omega), if_pos (by omega)]
            · rw [if_neg e1]
              by_cases e2 : j = 0
              · rw [if_pos e2, if_pos e2]
              · rw [if_neg e2, if_neg e2]
                by_cases e3 : j < k
                · rw [if_pos e3, if_pos (by omega)]
                · rw [if_neg e3, if_neg (by omega)]
          rw [e]
          exact N2.out
        case measure => have := HK.out; simp [intOf]; omega
      · obtain rfl : k = 4 := by omega
        have c0 : wr.cell? ⟨w.heap.size + 1, 0, none⟩ = some (.int .u64 x) := a2.cell (j := 0) (by omega)
        have c1 : wr.cell? ⟨w.heap.size + 1, 1, none⟩ = some (.int .u64 18446744073709551615) := a2.cell (j := 1) (by omega)
        have c2 : wr.cell? ⟨w.heap.size + 1, 2, none⟩ = some (.int .u64 18446744073709551615) := a2.cell (j := 2) (by omega)
        have c3 : wr.cell? ⟨w.heap.size + 1, 3, none⟩ = some (.int .u64 18446744073709551615) := a2.cell (j := 3) (by omega)
        have f0 := a1.frozen 0
        have f1 := a1.frozen 1
        have f2 := a1.frozen 2
        have f3 := a1.frozen 3
        have d0 := a1.cell (j := 0) (by omega)
        have d1 := a1.cell (j := 1) (by omega)
        have d2 := a1.cell (j := 2) (by omega)
        have d3 := a1.cell (j := 3) (by omega)
        have HA1 := Lib.hid a1
        have HB := Lib.hid hB
        clear hk1 hk hlt a1 a2 hB
        go_wp2
        refine bodyPost_ret (results_word rfl rfl (HA1.out.store (fun j => if j = 0 then x else 18446744073709551615))) rfl ⟨rfl, ?_⟩
        exact (((HB.out.setCell (p := ⟨w.heap.size, 0, none⟩) (by simp) _).setCell (p := ⟨w.heap.size, 1, none⟩) (by simp) _).setCell (p := ⟨w.heap.size, 2, none⟩) (by simp) _).setCell (p := ⟨w.heap.size, 3, none⟩) (by simp) _
  · rw [wv_of (of_pos n hI hn)]
    have hn0 : 0 ≤ n := by omega
    have hn1 : n ≤ 9223372036854775807 := h.2
    have hw : IntKind.u64.wrap n = n := by rw [IntKind.wrap_u64]; omega
    have hn2 : n < 18446744073709551616 := by omega
    clear h hI
    go_enter Try.func8, Try.ntmps8
    go_wp2
    refine bodyPost_ret (results_word rfl rfl ((Arr4.new w 29 n 0 0 0).alloc (.cells #[.int .u64 n, .int .u64 0, .int .u64 0, .int .u64 0] 29))) rfl ⟨rfl, ?_⟩
    exact ((Below.refl _ w).alloc (Nat.le_refl _) _).alloc (by simp) _

/-! ### The order -/
def cmR (a b : Nat) : Nat → Int
  | 0 => 0
  | k + 1 => cmpN a b k (cmR a b k)
theorem cmR_four (a b : Nat) (ha : W256 a) (hb : W256 b) : cmR a b 4 = wcmp a b := cmp_parts a b ha hb

set_option maxRecDepth 100000 in
set_option maxHeartbeats 2000000 in
theorem refCmp_ret (a b : Nat) (ha : W256 a) (hb : W256 b) : Ret Try.prog 26 #[wv a, wv b] (.int .i64 (wcmp a b)) := by
  intro w
  have HC := Lib.hid (cmR_four a b ha hb)
  have A1 := (Arr4.word w 29 a).alloc (.cells #[.int .u64 (lim b 0), .int .u64 (lim b 1), .int .u64 (lim b 2), .int .u64 (lim b 3)] 29)
  have A2 := Arr4.word (w.alloc (.cells #[.int .u64 (lim a 0), .int .u64 (lim a 1), .int .u64 (lim a 2), .int .u64 (lim a 3)] 29)) 29 b
  have B0 := ((Below.refl _ w).alloc (Nat.le_refl _) (.cells #[.int .u64 (lim a 0), .int .u64 (lim a 1), .int .u64 (lim a 2), .int .u64 (lim a 3)] 29)).alloc (by simp) (.cells #[.int .u64 (lim b 0), .int .u64 (lim b 1), .int .u64 (lim b 2), .int .u64 (lim b 3)] 29)
  rw [World.size_alloc] at A2
  unfold wv
  clear ha hb
  go_enter Try.func26, Try.ntmps26
  go_wp2
  obtain ⟨W0, hW0⟩ : ∃ W0, (w.alloc (.cells #[.int .u64 (lim a 0), .int .u64 (lim a 1), .int .u64 (lim a 2), .int .u64 (lim a 3)] 29)).alloc (.cells #[.int .u64 (lim b 0), .int .u64 (lim b 1), .int .u64 (lim b 2), .int .u64 (lim b 3)] 29) = W0 := ⟨_, rfl⟩
  rw [hW0] at A1 A2 B0 ⊢
  clear hW0
  go_loopw [5] (fun i wr => ∃ (z : Int) (k : Nat), i = .int .i64 z ∧ k ≤ 4 ∧ z = (k : Int) - 1 ∧ cmR a b k = wcmp a b ∧ Arr4 wr w.heap.size 29 (lim a) ∧ Arr4 wr (w.heap.size + 1) 29 (lim b) ∧ Below w.heap.size w wr) (fun i _ => (intOf i + 1).toNat)
  case atStart => exact ⟨3, 4, rfl, by omega, by omega, HC.out, A1, A2, B0⟩
  case round =>
    obtain ⟨z, k, rfl, hk, hz, hc, a1, a2, hB⟩ := hrel
    clear A1 A2 B0 HC
    by_cases hk0 : 0 < k
    · obtain ⟨i, rfl⟩ : ∃ i, k = i + 1 := ⟨k - 1, by omega⟩
      obtain rfl : z = (i : Int) := by omega
      have hi4 : i < 4 := by omega
      have hi0 : (0 : Int) ≤ (i : Int) := by omega
      have hiI : (i : Int) < 4 := by omega
      have hst : cmpO (cmR a b i) (lim a i) (lim b i) = wcmp a b := hc
      have HA1 := Lib.hid a1
      have HA2 := Lib.hid a2
      have HB := Lib.hid hB
      have HI := Lib.hid hi4
      have ca := a1.cell hi4
      have cb := a2.cell hi4
      have e1 : ∀ x : Ext wr, x.w.cell? ⟨w.heap.size, i, none⟩ = some (.int .u64 (lim a i)) := fun x => (HA1.out.later' x.below).cell HI.out
      have e2 : ∀ x : Ext wr, x.w.cell? ⟨w.heap.size + 1, i, none⟩ = some (.int .u64 (lim b i)) := fun x => (HA2.out.later' x.below).cell HI.out
      clear hk hz hk0 hc a1 a2 hB hi4 ca cb
      generalize lim a i = x at *
      generalize lim b i = y at *
      generalize hrr : cmR a b i = r at *
      have HRR := Lib.hid hrr
      clear hrr
      by_cases h1 : x < y
      · have hw : wcmp a b = -1 := by rw [← hst]; unfold cmpO; rw [if_pos h1]
        have HW := Lib.hid hw
        clear hst hw
        go_wp2
        refine wp_region_quietR (C := Grows wr) (by kernel_rfl) (by kernel_rfl) (grows_refl wr) ?_
        repeat (go_big_quiet_step (fail))
        refine wpQuiet_nil ?_
        rintro _ ⟨xx, rfl⟩
        go_wp2
        go_ret
        exact ⟨by rw [HW.out]; rfl, HB.out.trans (xx.below.mono HB.out.size)⟩
      · by_cases h2 : y < x
        · have hw : wcmp a b = 1 := by rw [← hst]; unfold cmpO; rw [if_neg h1, if_pos h2]
          have HW := Lib.hid hw
          clear hst hw
          go_wp2
          refine wp_region_quietR (C := Grows wr) (by kernel_rfl) (by kernel_rfl) (grows_refl wr) ?_
          repeat (go_big_quiet_step (fail))
          refine wpQuiet_nil ?_
          rintro _ ⟨xx, rfl⟩
          have hB1 := HB.out.trans (xx.below.mono HB.out.size)
          have e3 : ∀ x' : Ext xx.w, x'.w.cell? ⟨w.heap.size, i, none⟩ = some (.int .u64 x) := fun x' => (x'.cell (p := ⟨_, i, none⟩) (HA1.out.later' xx.below).lt).trans (e1 xx)
          have e4 : ∀ x' : Ext xx.w, x'.w.cell? ⟨w.heap.size + 1, i, none⟩ = some (.int .u64 y) := fun x' => (x'.cell (p := ⟨_, i, none⟩) (HA2.out.later' xx.below).lt).trans (e2 xx)
          have HB1 := Lib.hid hB1
          clear e1 e2 hB1
          generalize xx.w = w5 at *
          go_wp2
          refine wp_region_quietR (C := Grows w5) (by kernel_rfl) (by kernel_rfl) (grows_refl w5) ?_
          repeat (go_big_quiet_step (fail))
          refine wpQuiet_nil ?_
          rintro _ ⟨xy, rfl⟩
          go_wp2
          go_ret
          exact ⟨by rw [HW.out]; rfl, HB1.out.trans (xy.below.mono HB1.out.size)⟩
        · have hw : r = wcmp a b := by rw [← hst]; unfold cmpO; rw [if_neg h1, if_neg h2]
          have HW := Lib.hid (HRR.out.trans hw)
          clear hst hw
          go_wp2
          refine wp_region_quietR (C := Grows wr) (by kernel_rfl) (by kernel_rfl) (grows_refl wr) ?_
          repeat (go_big_quiet_step (fail))
          refine wpQuiet_nil ?_
          rintro _ ⟨xx, rfl⟩
          have hB1 := HB.out.trans (xx.below.mono HB.out.size)
          have N1 := HA1.out.later' xx.below
          have N2 := HA2.out.later' xx.below
          have e3 : ∀ x' : Ext xx.w, x'.w.cell? ⟨w.heap.size, i, none⟩ = some (.int .u64 x) := fun x' => (x'.cell (p := ⟨_, i, none⟩) N1.lt).trans (e1 xx)
          have e4 : ∀ x' : Ext xx.w, x'.w.cell? ⟨w.heap.size + 1, i, none⟩ = some (.int .u64 y) := fun x' => (x'.cell (p := ⟨_, i, none⟩) N2.lt).trans (e2 xx)
          have HB1 := Lib.hid hB1
          have HN1 := Lib.hid N1
          have HN2 := Lib.hid N2
          clear e1 e2 hB1 N1 N2
          generalize xx.w = w5 at *
          go_wp2
          refine wp_region_quietR (C := Grows w5) (by kernel_rfl) (by kernel_rfl) (grows_refl w5) ?_
          repeat (go_big_quiet_step (fail))
          refine wpQuiet_nil ?_
          rintro _ ⟨xy, rfl⟩
          have N5 := Lib.hid (HN1.out.later' xy.below)
          have N6 := Lib.hid (HN2.out.later' xy.below)
          have N7 := Lib.hid (HB1.out.trans (xy.below.mono HB1.out.size))
          go_wp2
          go_roundw
          case rel => exact ⟨(i : Int) - 1, i, by simp, by have := HI.out; omega, rfl, HW.out, N5.out, N6.out, N7.out⟩
          case measure => first | (simp [intOf]; done) | (simp [intOf]; omega)
    · obtain rfl : k = 0 := by omega
      obtain rfl : z = -1 := by omega
      have hw : wcmp a b = 0 := hc.symm
      have HW := Lib.hid hw
      have HB := Lib.hid hB
      clear hk hz hk0 hc a1 a2 hB hw
      go_wp2
      go_ret
      exact ⟨by rw [HW.out]; rfl, HB.out⟩
end Go.Proofs.Ytbkgipggblphlaa
