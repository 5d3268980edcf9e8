/- The laws' first calls answer as they must. -/
import Derived.Test.YtgejdkiehcpinaaDoorEq4
namespace Go.Proofs.YtgejdkiehcpinaaDoor
open Go Go.RowKit
attribute [local go_sem] Oper.semAt_some Grows wide_fn eq4

/-- Four parts that lie in a block, and the block is one of a row's first n. -/
structure Lies (W : World) (B : Nat) (a b c d : Int) : Prop where
  lt : B < W.heap.size
  c0 : W.cell? ⟨B, 0, none⟩ = some (.int .u64 a)
  c1 : W.cell? ⟨B, 1, none⟩ = some (.int .u64 b)
  c2 : W.cell? ⟨B, 2, none⟩ = some (.int .u64 c)
  c3 : W.cell? ⟨B, 3, none⟩ = some (.int .u64 d)
  fr : ∀ j, W.frozen? ⟨B, j, none⟩ = false
theorem Lies.new (W : World) (a b c d : Int) : Lies (W.alloc (.cells #[.int .u64 a, .int .u64 b, .int .u64 c, .int .u64 d] 24)) W.heap.size a b c d := by
  have h := Arr4.new W 24 a b c d
  exact ⟨h.lt, h.cell (j := 0) (by omega), h.cell (j := 1) (by omega), h.cell (j := 2) (by omega), h.cell (j := 3) (by omega), fun j => h.frozen j⟩
theorem Lies.below {W W' : World} {B n : Nat} {a b c d : Int} (h : Lies W B a b c d) (hb : Below n W W') (hn : B < n) : Lies W' B a b c d :=
  ⟨Nat.lt_of_lt_of_le h.lt hb.size, (hb.cell hn).trans h.c0, (hb.cell hn).trans h.c1, (hb.cell hn).trans h.c2, (hb.cell hn).trans h.c3, fun j => (hb.frozen hn).trans (h.fr j)⟩
theorem Lies.later {W W' : World} {B : Nat} {a b c d : Int} (h : Lies W B a b c d) (hb : Below W.heap.size W W') : Lies W' B a b c d := h.below hb h.lt
theorem Lies.alloc {W : World} {B : Nat} {a b c d : Int} (h : Lies W B a b c d) (o : Obj) : Lies (W.alloc o) B a b c d := h.later ((Below.refl _ W).alloc (Nat.le_refl _) o)

/-- The same for a list of operations. -/
theorem wp_region_quietL {P : Program} {C : World → Prop} {id : Nat} {Q : Exit → Act → World → Prop} {a : Act} {w : World} {l : List Oper} (hm : P.follows .mixedOrders = true) (hB : Region.lexB .any l.toArray = true)
    (hC : C { w with drawn := w.drawn + 1 }) (h : wpQuiet P l.toArray C (fun a' => ∀ w', C w' → Q .normal a' w') l a) : (Code.region id l.toArray true).wp P Q a w :=
  wp_region_quiet (C := C) hm hB hC (by simpa using h)

set_option maxRecDepth 100000 in
set_option maxHeartbeats 4000000 in
theorem awake_ret : Ret Tryd.prog 10 #[] (.bool true) := by
  intro w
  have c1 := c_m1
  have c2 := c_1000
  have c3 := c_int1000
  have c4 := c_intm
  have c5 := c_parse1
  have c6 := c_parse2
  have c7 := c_parse3
  go_enter Tryd.func10, Tryd.ntmps10
  go_wp2_with fail
  refine (c1 _).mono ?_
  rintro e w1 ⟨rfl, hb1⟩
  go_wp2_with fail
  have L1 := Lies.new w1 18446744073709551615 18446744073709551615 18446744073709551615 18446744073709551615
  have B1 := hb1.alloc hb1.size (.cells #[.int .u64 18446744073709551615, .int .u64 18446744073709551615, .int .u64 18446744073709551615, .int .u64 18446744073709551615] 24)
  obtain ⟨W1, hW1⟩ : ∃ W1, w1.alloc (.cells #[.int .u64 18446744073709551615, .int .u64 18446744073709551615, .int .u64 18446744073709551615, .int .u64 18446744073709551615] 24) = W1 := ⟨_, rfl⟩
  rw [hW1] at L1 B1 ⊢
  clear hW1 hb1
  generalize w1.heap.size = b1 at *
  refine (c2 _).mono ?_
  rintro e w2 ⟨rfl, hb2⟩
  go_wp2_with fail
  refine (c3 _).mono ?_
  rintro e w3 ⟨rfl, hb3⟩
  have L3 := (L1.later hb2).later hb3
  have B3 := B1.trans ((hb2.mono B1.size).trans (hb3.mono (Nat.le_trans B1.size hb2.size)))
  obtain ⟨m0, m1, m2, m3, mf⟩ := And.intro L3.c0 (And.intro L3.c1 (And.intro L3.c2 (And.intro L3.c3 L3.fr)))
  clear L1 B1 hb2 hb3
  go_wp2_with fail
  refine (c4 _).mono ?_
  rintro e w4 ⟨rfl, hb4⟩
  go_wp2_with fail
  have L4 := L3.later hb4
  have B4 := B3.trans (hb4.mono B3.size)
  clear L3 B3 hb4 m0 m1 m2 m3 mf
  refine (c5 _).mono ?_
  rintro e w5 ⟨rfl, hb5⟩
  go_wp2_with fail
  have L5 := (L4.later hb5).alloc (.cells #[.int .u64 1, .int .u64 1, .int .u64 0, .int .u64 0] 24)
  have P5 := Lies.new w5 1 1 0 0
  have B5 := (B4.trans (hb5.mono B4.size)).alloc (Nat.le_trans B4.size hb5.size) (.cells #[.int .u64 1, .int .u64 1, .int .u64 0, .int .u64 0] 24)
  obtain ⟨W5, hW5⟩ : ∃ W5, w5.alloc (.cells #[.int .u64 1, .int .u64 1, .int .u64 0, .int .u64 0] 24) = W5 := ⟨_, rfl⟩
  rw [hW5] at L5 P5 B5 ⊢
  clear hW5 hb5 L4 B4
  generalize w5.heap.size = b5 at *
  refine (c6 _).mono ?_
  rintro e w6 ⟨rfl, hb6⟩
  go_wp2_with fail
  have L6 := (L5.later hb6).alloc (.cells #[.int .u64 1, .int .u64 1, .int .u64 0, .int .u64 0] 24)
  have P6 := (P5.later hb6).alloc (.cells #[.int .u64 1, .int .u64 1, .int .u64 0, .int .u64 0] 24)
  have R6 := Lies.new w6 1 1 0 0
  have B6 := (B5.trans (hb6.mono B5.size)).alloc (Nat.le_trans B5.size hb6.size) (.cells #[.int .u64 1, .int .u64 1, .int .u64 0, .int .u64 0] 24)
  obtain ⟨W6, hW6⟩ : ∃ W6, w6.alloc (.cells #[.int .u64 1, .int .u64 1, .int .u64 0, .int .u64 0] 24) = W6 := ⟨_, rfl⟩
  rw [hW6] at L6 P6 R6 B6 ⊢
  clear hW6 hb6 L5 P5 B5
  generalize w6.heap.size = b6 at *
  refine (c7 _).mono ?_
  unfold errV
  rintro e w7 ⟨rfl, hb7⟩
  go_wp2_with fail
  have L7 := (L6.later hb7).alloc (.cells #[.int .u64 0, .int .u64 0, .int .u64 0, .int .u64 0] 24)
  have P7 := (P6.later hb7).alloc (.cells #[.int .u64 0, .int .u64 0, .int .u64 0, .int .u64 0] 24)
  have R7 := (R6.later hb7).alloc (.cells #[.int .u64 0, .int .u64 0, .int .u64 0, .int .u64 0] 24)
  have B7 := (B6.trans (hb7.mono B6.size)).alloc (Nat.le_trans B6.size hb7.size) (.cells #[.int .u64 0, .int .u64 0, .int .u64 0, .int .u64 0] 24)
  obtain ⟨W7, hW7⟩ : ∃ W7, w7.alloc (.cells #[.int .u64 0, .int .u64 0, .int .u64 0, .int .u64 0] 24) = W7 := ⟨_, rfl⟩
  rw [hW7] at L7 P7 R7 B7 ⊢
  clear hW7 hb7 L6 P6 R6 B6
  generalize w7.heap.size = b7 at *
  have x0 : ∀ x : Ext W7, x.w.cell? ⟨b1, 0, none⟩ = some (.int .u64 18446744073709551615) := fun x => (L7.later x.below).c0
  have x1 : ∀ x : Ext W7, x.w.cell? ⟨b1, 1, none⟩ = some (.int .u64 18446744073709551615) := fun x => (L7.later x.below).c1
  have x2 : ∀ x : Ext W7, x.w.cell? ⟨b1, 2, none⟩ = some (.int .u64 18446744073709551615) := fun x => (L7.later x.below).c2
  have x3 : ∀ x : Ext W7, x.w.cell? ⟨b1, 3, none⟩ = some (.int .u64 18446744073709551615) := fun x => (L7.later x.below).c3
  have y0 : ∀ x : Ext W7, x.w.cell? ⟨b5, 0, none⟩ = some (.int .u64 1) := fun x => (P7.later x.below).c0
  have y1 : ∀ x : Ext W7, x.w.cell? ⟨b5, 1, none⟩ = some (.int .u64 1) := fun x => (P7.later x.below).c1
  have y2 : ∀ x : Ext W7, x.w.cell? ⟨b5, 2, none⟩ = some (.int .u64 0) := fun x => (P7.later x.below).c2
  have y3 : ∀ x : Ext W7, x.w.cell? ⟨b5, 3, none⟩ = some (.int .u64 0) := fun x => (P7.later x.below).c3
  have z0 : ∀ x : Ext W7, x.w.cell? ⟨b6, 0, none⟩ = some (.int .u64 1) := fun x => (R7.later x.below).c0
  have z1 : ∀ x : Ext W7, x.w.cell? ⟨b6, 1, none⟩ = some (.int .u64 1) := fun x => (R7.later x.below).c1
  have z2 : ∀ x : Ext W7, x.w.cell? ⟨b6, 2, none⟩ = some (.int .u64 0) := fun x => (R7.later x.below).c2
  have z3 : ∀ x : Ext W7, x.w.cell? ⟨b6, 3, none⟩ = some (.int .u64 0) := fun x => (R7.later x.below).c3
  obtain ⟨tb, htb, d9⟩ := c_bytes
  have d1 := c_1
  have d2 := c_2
  have d3 := c_256
  have d4 := c_hex
  have d5 := c_add
  have d6 := c_cmp
  have d7 := c_from
  have d8 := c_mul
  have d10 := c_sub
  have htI : (tb.size : Int) = 32 := by omega
  have BB := Lib.hid B7
  unfold W4 at *
  clear L7 P7 R7 B7 c1 c2 c3 c4 c5 c6 c7
  simp only [List.append] at d4 ⊢
  refine wp_region_quietL (C := Grows W7) (by kernel_rfl) (by kernel_rfl) (grows_refl W7) ?_
  repeat (go_big_quiet_step (first | (with_reducible exact Ret.at d1 _) | (with_reducible exact Ret.at d2 _) | (with_reducible exact Ret.at d3 _) | (with_reducible exact Ret.at d4 _) | (with_reducible exact Ret.at d5 _) | (with_reducible exact Ret.at d6 _) | (with_reducible exact Ret.at d7 _) | (with_reducible exact Ret.at d8 _) | (with_reducible exact Ret.at d9 _) | (with_reducible exact Ret.at d10 _)))
  refine wpQuiet_nil ?_
  rintro _ ⟨x, rfl⟩
  go_wp2
  go_ret
  exact ⟨rfl, BB.out.trans (x.below.mono BB.out.size)⟩
end Go.Proofs.YtgejdkiehcpinaaDoor
