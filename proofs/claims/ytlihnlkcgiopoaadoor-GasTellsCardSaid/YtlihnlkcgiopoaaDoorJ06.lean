/- Part. -/
import Derived.Test.YtlihnlkcgiopoaaDoorJ02
import Derived.Maps.AppendAt
import Derived.Deep.OwnRows
import Derived.Laws.Bits64b
import Derived.Laws.BitsAll
import Derived.Test.YtlihnlkcgiopoaaDoorJ04
import Derived.Test.YtlihnlkcgiopoaaDoorJ03
import Derived.Laws.MakeOwn
import Derived.Laws.AppendOwn
import Derived.OwnWalk
import Derived.WalkSmall
set_option maxRecDepth 100000
set_option maxHeartbeats 16000000
namespace Go.Proofs.YtlihnlkcgiopoaaDoor
section
def dg (a t : Nat) : Nat := a / 256 ^ t % 256
theorem dg_lt (a t : Nat) : dg a t < 256 := Nat.mod_lt _ (by decide)
theorem dg_lim (a k i : Nat) (hk : k < 4) (hi : i < 8) : (lim a k / 256 ^ i) % 256 = (dg a (8 * k + i) : Int) := by
 unfold dg
 have h : ∀ x : Nat, ((x % 18446744073709551616 : Nat) : Int) / 256 ^ i % 256 = ((x / 256 ^ i % 256 : Nat) : Int) := by
  intro x
  have : i = 0 ∨ i = 1 ∨ i = 2 ∨ i = 3 ∨ i = 4 ∨ i = 5 ∨ i = 6 ∨ i = 7 := by omega
  rcases this with rfl | rfl | rfl | rfl | rfl | rfl | rfl | rfl <;> simp only [Nat.reducePow, Int.reducePow] <;> omega
 match k, hk with
 | 0, _ =>
  show ((a % 18446744073709551616 : Nat) : Int) / 256 ^ i % 256 = _
  rw [h a, Nat.mul_zero, Nat.zero_add]
 | 1, _ =>
  show ((a / 18446744073709551616 % 18446744073709551616 : Nat) : Int) / 256 ^ i % 256 = _
  rw [h, show (18446744073709551616 : Nat) = 256 ^ (8 * 1) by decide, Nat.div_div_eq_div_mul, ← Nat.pow_add]
 | 2, _ =>
  show ((a / 340282366920938463463374607431768211456 % 18446744073709551616 : Nat) : Int) / 256 ^ i % 256 = _
  rw [h, show (340282366920938463463374607431768211456 : Nat) = 256 ^ (8 * 2) by decide, Nat.div_div_eq_div_mul, ← Nat.pow_add]
 | 3, _ =>
  show ((a / 6277101735386680763835789423207666416102355444464034512896 % 18446744073709551616 : Nat) : Int) / 256 ^ i % 256 = _
  rw [h, show (6277101735386680763835789423207666416102355444464034512896 : Nat) = 256 ^ (8 * 3) by decide, Nat.div_div_eq_div_mul, ← Nat.pow_add]
def valI (d : Nat → Int) : Nat → Int
 | 0 => 0
 | n + 1 => valI d n + d n * 256 ^ n
def hor (d : Nat → Int) (p : Nat) : Nat → Int
 | 0 => 0
 | m + 1 => hor d p m * 256 + d (8 * p + 7 - m)
end
section
open Go Go.RowKit Go.Shelf
attribute [local go_sem] Oper.semAt_some Grows wide_fn
theorem Arr4.mk0' (W : World) (t : TypeId) : Arr4 (W.alloc (.cells #[.int .u64 0, .int .u64 0, .int .u64 0, .int .u64 0] t)) W.heap.size t (fun _ => 0) := World.alloc_heap_new W _
theorem Arr4.later' {W W' : World} {B : Nat} {t : TypeId} {m : Nat → Int} (h : Arr4 W B t m) (hb : Below W.heap.size W W') : Arr4 W' B t m := h.below hb h.lt
theorem Arr4.same4 {W : World} {B : Nat} {t : TypeId} {m m' : Nat → Int} (h : Arr4 W B t m) (h0 : m 0 = m' 0) (h1 : m 1 = m' 1) (h2 : m 2 = m' 2) (h3 : m 3 = m' 3) : Arr4 W B t m' := by
 unfold Arr4 at *
 rw [h, h0, h1, h2, h3]
def IntsAt (W : World) (g n : Nat) (d : Nat → Int) : Prop := ∃ cur, W.heap[g]? = some (.cells cur 3 (0, 0)) ∧ ∀ j, j < n → cur[j]? = some (.int .i64 (d j))
theorem IntsAt.lt {W : World} {g n : Nat} {d : Nat → Int} (h : IntsAt W g n d) : g < W.heap.size := by
 obtain ⟨cur, h1, _⟩ := h
 exact (Array.getElem?_eq_some_iff.1 h1).1
theorem IntsAt.cell {W : World} {g n : Nat} {d : Nat → Int} (h : IntsAt W g n d) {j : Nat} (hj : j < n) : W.cell? ⟨g, j, none⟩ = some (.int .i64 (d j)) := by
 obtain ⟨cur, h1, h2⟩ := h
 simp [World.cell?, h1, h2 j hj]
theorem IntsAt.kept {W W' : World} {row : Option Nat} {g n : Nat} {d : Nat → Int} (h : IntsAt W g n d) (hg : W.grownBy W' row) (hne : some g ≠ row) : IntsAt W' g n d := by
 have hl := h.lt
 obtain ⟨cur, h1, h2⟩ := h
 exact ⟨cur, (hg.block g hl hne).trans h1, h2⟩
theorem IntsAt.alloc {W : World} {g n : Nat} {d : Nat → Int} (h : IntsAt W g n d) (o : Obj) : IntsAt (W.alloc o) g n d := h.kept (World.grownBy_alloc W o none) (by simp)
theorem IntsAt.of_row {W : World} {base n g cap : Nat} {d : Nat → Int} {xs : List Value} (h : W.ownsRow base 3 1 (.slice (some ⟨g, 0, none⟩) n cap) n xs) (hx : ∀ j, j < n → xs[j]? = some (.int .i64 (d j))) : base ≤ g ∧ IntsAt W g n d := by
 rcases h.2 with ⟨h1, _⟩ | ⟨g', cap', cur, h1, hb, hg, _, _, _, ht⟩
 ·cases h1
 ·injection h1 with e1 _ _
  injection e1 with e2
  injection e2 with e3 _ _
  subst e3
  refine ⟨hb, cur, hg, fun j hj => ?_⟩
  have := hx j hj
  rw [← ht, List.getElem?_take] at this
  split at this
  ·simpa using this
  ·cases this
theorem cell_one (w : World) (x : Value) (t : TypeId) : ∀ j u, [x][j]? = some u → (w.alloc (.cells #[x] t)).cell? ((⟨w.heap.size, 0, none⟩ : Addr).add j) = some u := by
 intro j u hj
 match j, hj with
 | 0, hj =>
  simp at hj
  subst hj
  show (w.alloc (.cells #[x] t)).cell? ⟨w.heap.size, 0, none⟩ = some x
  simp only [World.cell?, show (w.alloc (.cells #[x] t)).heap[w.heap.size]? = _ from World.alloc_heap_new w _]
  rfl
 | j + 1, hj => simp at hj
theorem infoI : (Tryd.prog.info? 3).map (fun i => (i.zero, i.size, i.bytes)) = some (some (.int .i64 0), 1, 8) := by kernel_rfl
theorem wp_region_quietR {P : Program} {C : World → Prop} {id : Nat} {Q : Exit → Act → World → Prop} {a : Act} {w : World} {l : List Oper} (hm : P.follows .mixedOrders = true) (hB : Region.lexB .any l.toArray = true)
  (hC : C { w with drawn := w.drawn + 1 }) (h : wpQuiet P l.toArray C (fun a' => ∀ w', C w' → Q .normal a' w') l a) : (Code.region id l.toArray true).wp P Q a w :=
 wp_region_quiet (C := C) hm hB hC (by simpa using h)
def dgsV (a n : Nat) : List Value := (List.range n).map fun j => Value.int .i64 (dg a j : Int)
theorem dgsV_succ (a n : Nat) : dgsV a (n + 1) = dgsV a n ++ [.int .i64 (dg a n : Int)] := by simp [dgsV, List.range_succ]
def dvAt (a p : Nat) : Nat → Int
 | 0 => lim a p
 | q + 1 => dvAt a p q / 256
theorem dvAt_eq (a p : Nat) : ∀ q, dvAt a p q = lim a p / 256 ^ q
 | 0 => by simp [dvAt]
 | q + 1 => by
  rw [dvAt, dvAt_eq a p q, Int.pow_succ, Int.ediv_ediv_of_nonneg (Int.le_of_lt (Int.pow_pos (by decide)))]
theorem dvAt_u64 (a p : Nat) : ∀ q, U64 (dvAt a p q)
 | 0 => lim_u64 a p
 | q + 1 => by have := dvAt_u64 a p q; unfold U64 at *; unfold dvAt; omega
theorem dvAt_digit (a p q : Nat) (hp : p < 4) (hq : q < 8) : dvAt a p q % 256 = (dg a (8 * p + q) : Int) := by rw [dvAt_eq, dg_lim a p q hp hq]
theorem digits_any (a : Nat) (w : World) : Calls Tryd.prog 75 #[wv a] w fun e w' => ∃ g cap, e = .returned (.slice (some ⟨g, 0, none⟩) 32 cap) ∧ w.heap.size ≤ g ∧ IntsAt w' g 32 (fun j => (dg a j : Int)) ∧ Below w.heap.size w w' := by
 have A0 := Arr4.word w 24 a
 have B0 := (Below.refl _ w).alloc (Nat.le_refl _) (.cells #[.int .u64 (lim a 0), .int .u64 (lim a 1), .int .u64 (lim a 2), .int .u64 (lim a 3)] 24)
 unfold wv
 go_enter Tryd.func75, Tryd.ntmps75
 go_wp2
 have R0 := World.ownsRow_nil (w.alloc (.cells #[.int .u64 (lim a 0), .int .u64 (lim a 1), .int .u64 (lim a 2), .int .u64 (lim a 3)] 24)) (w.heap.size + 1) 3 1
 have hs0 : w.heap.size + 1 ≤ (w.alloc (.cells #[.int .u64 (lim a 0), .int .u64 (lim a 1), .int .u64 (lim a 2), .int .u64 (lim a 3)] 24)).heap.size := by simp
 obtain ⟨W0, hW0⟩ : ∃ W0, w.alloc (.cells #[.int .u64 (lim a 0), .int .u64 (lim a 1), .int .u64 (lim a 2), .int .u64 (lim a 3)] 24) = W0 := ⟨_, rfl⟩
 rw [hW0] at A0 B0 R0 hs0 ⊢
 clear hW0
 go_loopw [3, 4] (fun t i wr => ∃ p : Nat, p ≤ 4 ∧ i = .int .i64 (p : Int) ∧ Arr4 wr w.heap.size 24 (lim a) ∧ wr.ownsRow (w.heap.size + 1) 3 1 t (8 * p) (dgsV a (8 * p)) ∧ Below w.heap.size w wr ∧ w.heap.size + 1 ≤ wr.heap.size) (fun _ i _ => 4 - (intOf i).toNat)
 case atStart => exact ⟨0, by omega, rfl, A0, R0, B0, hs0⟩
 case round =>
  obtain ⟨p, hp, rfl, aw, hown, hB, hsz⟩ := hrel
  clear A0 B0 R0 hs0
  by_cases hlt : p < 4
  ·have hpI : (p : Int) < 4 := by omega
   have hp0 : (0 : Int) ≤ (p : Int) := by omega
   have cp := aw.cell hlt
   have HP := Lib.hid hlt
   clear hp hlt
   obtain ⟨wo, rfl⟩ : ∃ wo : World, wo = wr := ⟨_, rfl⟩
   go_wp2
   go_loopw [3, 5, 6] (fun t x k wr => ∃ q : Nat, q ≤ 8 ∧ k = .int .i64 (q : Int) ∧ x = .int .u64 (dvAt a p q) ∧ Arr4 wr w.heap.size 24 (lim a) ∧ wr.ownsRow (w.heap.size + 1) 3 1 t (8 * p + q) (dgsV a (8 * p + q)) ∧ Below w.heap.size w wr ∧ w.heap.size + 1 ≤ wr.heap.size) (fun _ _ k _ => 8 - (intOf k).toNat)
   case atStart => exact ⟨0, by omega, rfl, rfl, aw, hown, hB, hsz⟩
   case round =>
    obtain ⟨q, hq, rfl, rfl, aw, hown, hB, hsz⟩ := hrel
    by_cases hlt : q < 8
    ·have hqI : (q : Int) < 8 := by omega
     have hq0 : (0 : Int) ≤ (q : Int) := by omega
     have hd := dvAt_digit a p q HP.out hlt
     have hu := dvAt_u64 a p q
     have hn : dvAt a p (q + 1) = dvAt a p q / 256 := rfl
     have HN := Lib.hid hn
     have HD := Lib.hid (dgsV_succ a (8 * p + q))
     have hb := dg_lt a (8 * p + q)
     have HQ := Lib.hid hlt
     have AW := Lib.hid aw
     have HO := Lib.hid hown
     have HB := Lib.hid hB
     have HZ := Lib.hid hsz
     obtain ⟨hu0, hu1⟩ := hu
     generalize dvAt a p q = y at *
     have e1 : y.tmod 256 = (dg a (8 * p + q) : Int) := by rw [Int.tmod_eq_emod_of_nonneg hu0, hd]
     have e2 : y.tdiv 256 = y / 256 := Int.tdiv_eq_ediv_of_nonneg hu0
     have hb0 : (0 : Int) ≤ (dg a (8 * p + q) : Int) := by omega
     have hb1 : (dg a (8 * p + q) : Int) < 256 := by omega
     have hy0 : 0 ≤ y / 256 := by omega
     have hy1 : y / 256 < 18446744073709551616 := by omega
     have hcap : 8 * p + q < 32 := by have := HP.out; omega
     generalize (dg a (8 * p + q) : Int) = b at *
     generalize hnE : 8 * p + q = n at *
     have HE := Lib.hid hnE
     clear hnE
     obtain ⟨i0, hi, hz0, hz1, hz2⟩ := info_parts infoI
     clear hq hlt hd hn hb aw hown hB hsz
     go_wp2_with (at_builtin; refine wpList_append_own _ rfl _ _ 33 rfl (w.heap.size + 1) 3 i0 (.int .i64 0) 1 8 Tryd.underlying33 hi hz0 hz1 hz2 rfl (by decide) _ _ _ rfl (HO.out.alloc _) ⟨wr.heap.size, 0, none⟩ 1 1 [.int .i64 b] rfl rfl (cell_one _ _ _) (by simp [Value.oneCell']) (by unfold maxLen; omega) (by omega) (by have := HZ.out; simp; omega) ?_; intro v' w3 hown' hgrow hnil)
     clear hi hz0 hz1 hz2
     go_wp2
     go_roundw
     case rel =>
      have hxs3 := hgrow.size
      have hltA := AW.out.lt
      have hzz := HZ.out
      refine ⟨q + 1, HQ.out, by simp, by rw [HN.out], ?_, ?_, ?_, by simp at hxs3; omega⟩
      ·exact (AW.out.alloc _).kept hgrow (fun e => by have := (HO.out.alloc (.cells #[.int .i64 b] 3)).lt _ e.symm; omega)
      ·rw [show 8 * p + (q + 1) = n + 1 by have := HE.out; omega, HD.out]; exact hown'
      ·exact (HB.out.alloc (by omega) _).grown hgrow (by simp; omega) (fun j e => by have := (HO.out.alloc (.cells #[.int .i64 b] 3)).lt j e; omega)
     case measure => have := HQ.out; simp [intOf]; omega
    ·obtain rfl : q = 8 := by omega
     have HO := Lib.hid hown
     clear hq hlt hown
     have HA := Lib.hid aw
     have HB := Lib.hid hB
     have HZ := Lib.hid hsz
     clear aw hB hsz
     go_wp2
     go_roundw
     case rel => exact ⟨p + 1, HP.out, by simp, HA.out, HO.out, HB.out, HZ.out⟩
     case measure => have := HP.out; simp [intOf]; omega
  ·obtain rfl : p = 4 := by omega
   obtain ⟨g, cap, rfl⟩ := ownsRow_succ (k := 31) hown
   have hx := IntsAt.of_row (d := fun j => (dg a j : Int)) hown (fun j hj => by simp [dgsV, hj])
   have HX := Lib.hid hx
   have HB := Lib.hid hB
   clear hp hlt hown aw hB hsz hx
   go_wp2
   go_ret
   exact ⟨g, cap, rfl, by have := HX.out.1; omega, HX.out.2, HB.out⟩

theorem refOf_ret (n : Int) (h : I64 n) : Ret Tryd.prog 23 #[.int .i64 n] (wv (ofN n)) := by
 intro w
 have hI := h
 unfold I64 at h
 by_cases hn : n < 0
 ·rw [wv_of (of_neg n hI hn)]
  have hw : IntKind.u64.wrap n = 18446744073709551616 + n := by rw [IntKind.wrap_u64]; omega
  have h1 : -9223372036854775808 ≤ n := h.1
  obtain ⟨x, hx⟩ : ∃ x, x = 18446744073709551616 + n := ⟨_, rfl⟩
  rw [← hx] at hw ⊢
  have hx0 : 0 ≤ x := by omega
  have hx1 : x < 18446744073709551616 := by omega
  clear h hI hx
  go_enter Tryd.func23, Tryd.ntmps23
  go_wp2
  have A1 := (Arr4.mk0' w 24).alloc (.cells #[.int .u64 x, .int .u64 0, .int .u64 0, .int .u64 0] 24)
  have A2 := Arr4.new (w.alloc (.cells #[.int .u64 0, .int .u64 0, .int .u64 0, .int .u64 0] 24)) 24 x 0 0 0
  have B0 := ((Below.refl _ w).alloc (Nat.le_refl _) (.cells #[.int .u64 0, .int .u64 0, .int .u64 0, .int .u64 0] 24)).alloc (by simp) (.cells #[.int .u64 x, .int .u64 0, .int .u64 0, .int .u64 0] 24)
  rw [World.size_alloc] at A2
  obtain ⟨W0, hW0⟩ : ∃ W0, (w.alloc (.cells #[.int .u64 0, .int .u64 0, .int .u64 0, .int .u64 0] 24)).alloc (.cells #[.int .u64 x, .int .u64 0, .int .u64 0, .int .u64 0] 24) = W0 := ⟨_, rfl⟩
  rw [hW0] at A1 A2 B0 ⊢
  clear hW0
  go_loopw [4] (fun i wr => ∃ k : Nat, 1 ≤ k ∧ k ≤ 4 ∧ i = .int .i64 (k : Int) ∧ Arr4 wr w.heap.size 24 (fun _ => 0) ∧ Arr4 wr (w.heap.size + 1) 24 (fun j => if j = 0 then x else if j < k then 18446744073709551615 else 0) ∧ Below w.heap.size w wr) (fun i _ => 4 - (intOf i).toNat)
  case atStart => exact ⟨1, by omega, by omega, rfl, A1, A2.same4 rfl rfl rfl rfl, B0⟩
  case round =>
   obtain ⟨k, hk1, hk, rfl, a1, a2, hB⟩ := hrel
   clear A1 A2 B0
   by_cases hlt : k < 4
   ·have hkI : (k : Int) < 4 := by omega
    have hk0 : (0 : Int) ≤ (k : Int) := by omega
    have fp := a2.frozen k
    have cp := a2.cell hlt
    have N1 := Lib.hid (a1.other (p := ⟨w.heap.size + 1, k, none⟩) (by simp) (.int .u64 18446744073709551615))
    have N2 := Lib.hid (a2.set hlt 18446744073709551615)
    have N3 := Lib.hid (hB.setCell (p := ⟨w.heap.size + 1, k, none⟩) (by simp) (.int .u64 18446744073709551615))
    have HK := Lib.hid (And.intro hk1 hlt)
    clear hk1 hk hlt a1 a2 hB
    go_wp2
    go_roundw
    case rel =>
     have hk := HK.out
     refine ⟨k + 1, by omega, by omega, by simp, N1.out, ?_, N3.out⟩
     have e : (fun j => if j = 0 then x else if j < k + 1 then (18446744073709551615 : Int) else 0) = (fun j => if j = k then 18446744073709551615 else if j = 0 then x else if j < k then 18446744073709551615 else 0) := by
      funext j
      by_cases e1 : j = k
      ·rw [if_pos e1, if_neg (by omega), if_pos (by omega)]
      ·rw [if_neg e1]
       by_cases e2 : j = 0
       ·rw [if_pos e2, if_pos e2]
       ·rw [if_neg e2, if_neg e2]
        by_cases e3 : j < k
        ·rw [if_pos e3, if_pos (by omega)]
        ·rw [if_neg e3, if_neg (by omega)]
     rw [e]
     exact N2.out
    case measure => have := HK.out; simp [intOf]; omega
   ·obtain rfl : k = 4 := by omega
    have c0 : wr.cell? ⟨w.heap.size + 1, 0, none⟩ = some (.int .u64 x) := a2.cell (j := 0) (by omega)
    have c1 : wr.cell? ⟨w.heap.size + 1, 1, none⟩ = some (.int .u64 18446744073709551615) := a2.cell (j := 1) (by omega)
    have c2 : wr.cell? ⟨w.heap.size + 1, 2, none⟩ = some (.int .u64 18446744073709551615) := a2.cell (j := 2) (by omega)
    have c3 : wr.cell? ⟨w.heap.size + 1, 3, none⟩ = some (.int .u64 18446744073709551615) := a2.cell (j := 3) (by omega)
    have f0 := a1.frozen 0
    have f1 := a1.frozen 1
    have f2 := a1.frozen 2
    have f3 := a1.frozen 3
    have d0 := a1.cell (j := 0) (by omega)
    have d1 := a1.cell (j := 1) (by omega)
    have d2 := a1.cell (j := 2) (by omega)
    have d3 := a1.cell (j := 3) (by omega)
    have HA1 := Lib.hid a1
    have HB := Lib.hid hB
    clear hk1 hk hlt a1 a2 hB
    go_wp2
    refine bodyPost_ret (results_word rfl rfl (HA1.out.store (fun j => if j = 0 then x else 18446744073709551615))) rfl ⟨rfl, ?_⟩
    exact (((HB.out.setCell (p := ⟨w.heap.size, 0, none⟩) (by simp) _).setCell (p := ⟨w.heap.size, 1, none⟩) (by simp) _).setCell (p := ⟨w.heap.size, 2, none⟩) (by simp) _).setCell (p := ⟨w.heap.size, 3, none⟩) (by simp) _
 ·rw [wv_of (of_pos n hI hn)]
  have hn0 : 0 ≤ n := by omega
  have hn1 : n ≤ 9223372036854775807 := h.2
  have hw : IntKind.u64.wrap n = n := by rw [IntKind.wrap_u64]; omega
  have hn2 : n < 18446744073709551616 := by omega
  clear h hI
  go_enter Tryd.func23, Tryd.ntmps23
  go_wp2
  refine bodyPost_ret (results_word rfl rfl ((Arr4.new w 24 n 0 0 0).alloc (.cells #[.int .u64 n, .int .u64 0, .int .u64 0, .int .u64 0] 24))) rfl ⟨rfl, ?_⟩
  exact ((Below.refl _ w).alloc (Nat.le_refl _) _).alloc (by simp) _
def cmR (a b : Nat) : Nat → Int
 | 0 => 0
 | k + 1 => cmpN a b k (cmR a b k)
theorem cmR_four (a b : Nat) (ha : W256 a) (hb : W256 b) : cmR a b 4 = wcmp a b := cmp_parts a b ha hb
theorem refCmp_ret (a b : Nat) (ha : W256 a) (hb : W256 b) : Ret Tryd.prog 93 #[wv a, wv b] (.int .i64 (wcmp a b)) := by
 intro w
 have HC := Lib.hid (cmR_four a b ha hb)
 have A1 := (Arr4.word w 24 a).alloc (.cells #[.int .u64 (lim b 0), .int .u64 (lim b 1), .int .u64 (lim b 2), .int .u64 (lim b 3)] 24)
 have A2 := Arr4.word (w.alloc (.cells #[.int .u64 (lim a 0), .int .u64 (lim a 1), .int .u64 (lim a 2), .int .u64 (lim a 3)] 24)) 24 b
 have B0 := ((Below.refl _ w).alloc (Nat.le_refl _) (.cells #[.int .u64 (lim a 0), .int .u64 (lim a 1), .int .u64 (lim a 2), .int .u64 (lim a 3)] 24)).alloc (by simp) (.cells #[.int .u64 (lim b 0), .int .u64 (lim b 1), .int .u64 (lim b 2), .int .u64 (lim b 3)] 24)
 rw [World.size_alloc] at A2
 unfold wv
 clear ha hb
 go_enter Tryd.func93, Tryd.ntmps93
 go_wp2
 obtain ⟨W0, hW0⟩ : ∃ W0, (w.alloc (.cells #[.int .u64 (lim a 0), .int .u64 (lim a 1), .int .u64 (lim a 2), .int .u64 (lim a 3)] 24)).alloc (.cells #[.int .u64 (lim b 0), .int .u64 (lim b 1), .int .u64 (lim b 2), .int .u64 (lim b 3)] 24) = W0 := ⟨_, rfl⟩
 rw [hW0] at A1 A2 B0 ⊢
 clear hW0
 go_loopw [5] (fun i wr => ∃ (z : Int) (k : Nat), i = .int .i64 z ∧ k ≤ 4 ∧ z = (k : Int) - 1 ∧ cmR a b k = wcmp a b ∧ Arr4 wr w.heap.size 24 (lim a) ∧ Arr4 wr (w.heap.size + 1) 24 (lim b) ∧ Below w.heap.size w wr) (fun i _ => (intOf i + 1).toNat)
 case atStart => exact ⟨3, 4, rfl, by omega, by omega, HC.out, A1, A2, B0⟩
 case round =>
  obtain ⟨z, k, rfl, hk, hz, hc, a1, a2, hB⟩ := hrel
  clear A1 A2 B0 HC
  by_cases hk0 : 0 < k
  ·obtain ⟨i, rfl⟩ : ∃ i, k = i + 1 := ⟨k - 1, by omega⟩
   obtain rfl : z = (i : Int) := by omega
   have hi4 : i < 4 := by omega
   have hi0 : (0 : Int) ≤ (i : Int) := by omega
   have hiI : (i : Int) < 4 := by omega
   have hst : cmpO (cmR a b i) (lim a i) (lim b i) = wcmp a b := hc
   have HA1 := Lib.hid a1
   have HA2 := Lib.hid a2
   have HB := Lib.hid hB
   have HI := Lib.hid hi4
   have ca := a1.cell hi4
   have cb := a2.cell hi4
   have e1 : ∀ x : Ext wr, x.w.cell? ⟨w.heap.size, i, none⟩ = some (.int .u64 (lim a i)) := fun x => (HA1.out.later' x.below).cell HI.out
   have e2 : ∀ x : Ext wr, x.w.cell? ⟨w.heap.size + 1, i, none⟩ = some (.int .u64 (lim b i)) := fun x => (HA2.out.later' x.below).cell HI.out
   clear hk hz hk0 hc a1 a2 hB hi4 ca cb
   generalize lim a i = x at *
   generalize lim b i = y at *
   generalize hrr : cmR a b i = r at *
   have HRR := Lib.hid hrr
   clear hrr
   by_cases h1 : x < y
   ·have hw : wcmp a b = -1 := by rw [← hst]; unfold cmpO; rw [if_pos h1]
    have HW := Lib.hid hw
    clear hst hw
    go_wp2
    refine wp_region_quietR (C := Grows wr) (by kernel_rfl) (by kernel_rfl) (grows_refl wr) ?_
    repeat (go_big_quiet_step (fail))
    refine wpQuiet_nil ?_
    rintro _ ⟨xx, rfl⟩
    go_wp2
    go_ret
    exact ⟨by rw [HW.out]; rfl, HB.out.trans (xx.below.mono HB.out.size)⟩
   ·by_cases h2 : y < x
    ·have hw : wcmp a b = 1 := by rw [← hst]; unfold cmpO; rw [if_neg h1, if_pos h2]
     have HW := Lib.hid hw
     clear hst hw
     go_wp2
     refine wp_region_quietR (C := Grows wr) (by kernel_rfl) (by kernel_rfl) (grows_refl wr) ?_
     repeat (go_big_quiet_step (fail))
     refine wpQuiet_nil ?_
     rintro _ ⟨xx, rfl⟩
     have hB1 := HB.out.trans (xx.below.mono HB.out.size)
     have e3 : ∀ x' : Ext xx.w, x'.w.cell? ⟨w.heap.size, i, none⟩ = some (.int .u64 x) := fun x' => (x'.cell (p := ⟨_, i, none⟩) (HA1.out.later' xx.below).lt).trans (e1 xx)
     have e4 : ∀ x' : Ext xx.w, x'.w.cell? ⟨w.heap.size + 1, i, none⟩ = some (.int .u64 y) := fun x' => (x'.cell (p := ⟨_, i, none⟩) (HA2.out.later' xx.below).lt).trans (e2 xx)
     have HB1 := Lib.hid hB1
     clear e1 e2 hB1
     generalize xx.w = w5 at *
     go_wp2
     refine wp_region_quietR (C := Grows w5) (by kernel_rfl) (by kernel_rfl) (grows_refl w5) ?_
     repeat (go_big_quiet_step (fail))
     refine wpQuiet_nil ?_
     rintro _ ⟨xy, rfl⟩
     go_wp2
     go_ret
     exact ⟨by rw [HW.out]; rfl, HB1.out.trans (xy.below.mono HB1.out.size)⟩
    ·have hw : r = wcmp a b := by rw [← hst]; unfold cmpO; rw [if_neg h1, if_neg h2]
     have HW := Lib.hid (HRR.out.trans hw)
     clear hst hw
     go_wp2
     refine wp_region_quietR (C := Grows wr) (by kernel_rfl) (by kernel_rfl) (grows_refl wr) ?_
     repeat (go_big_quiet_step (fail))
     refine wpQuiet_nil ?_
     rintro _ ⟨xx, rfl⟩
     have hB1 := HB.out.trans (xx.below.mono HB.out.size)
     have N1 := HA1.out.later' xx.below
     have N2 := HA2.out.later' xx.below
     have e3 : ∀ x' : Ext xx.w, x'.w.cell? ⟨w.heap.size, i, none⟩ = some (.int .u64 x) := fun x' => (x'.cell (p := ⟨_, i, none⟩) N1.lt).trans (e1 xx)
     have e4 : ∀ x' : Ext xx.w, x'.w.cell? ⟨w.heap.size + 1, i, none⟩ = some (.int .u64 y) := fun x' => (x'.cell (p := ⟨_, i, none⟩) N2.lt).trans (e2 xx)
     have HB1 := Lib.hid hB1
     have HN1 := Lib.hid N1
     have HN2 := Lib.hid N2
     clear e1 e2 hB1 N1 N2
     generalize xx.w = w5 at *
     go_wp2
     refine wp_region_quietR (C := Grows w5) (by kernel_rfl) (by kernel_rfl) (grows_refl w5) ?_
     repeat (go_big_quiet_step (fail))
     refine wpQuiet_nil ?_
     rintro _ ⟨xy, rfl⟩
     have N5 := Lib.hid (HN1.out.later' xy.below)
     have N6 := Lib.hid (HN2.out.later' xy.below)
     have N7 := Lib.hid (HB1.out.trans (xy.below.mono HB1.out.size))
     go_wp2
     go_roundw
     case rel => exact ⟨(i : Int) - 1, i, by simp, by have := HI.out; omega, rfl, HW.out, N5.out, N6.out, N7.out⟩
     case measure => first | (simp [intOf]; done) | (simp [intOf]; omega)
  ·obtain rfl : k = 0 := by omega
   obtain rfl : z = -1 := by omega
   have hw : wcmp a b = 0 := hc.symm
   have HW := Lib.hid hw
   have HB := Lib.hid hB
   clear hk hz hk0 hc a1 a2 hB hw
   go_wp2
   go_ret
   exact ⟨by rw [HW.out]; rfl, HB.out⟩

end
section
open Go Go.RowKit
attribute [local go_sem] Oper.semAt_some Grows wide_fn

end
section
open Go Go.RowKit Go.Shelf
attribute [local go_sem] Oper.semAt_some wide_fn Grows
end
section
open Go Go.RowKit
attribute [local go_sem] Oper.semAt_some Grows wide_fn
def S1 : Nat := 57896044618658097711785492504343953926634992332820282019728792003956564819968

end
section
open Go Go.RowKit Go.Shelf
attribute [local go_sem] Oper.semAt_some Grows wide_fn
theorem infoB : (Tryd.prog.info? 5).map (fun i => (i.zero, i.size, i.bytes)) = some (some (.int .u8 0), 1, 1) := by kernel_rfl
def byteL (a : Nat) : List Nat := (List.range 32).map fun j => byteN a (31 - j)
theorem bytesOf_list (a : Nat) : (bytesOf a).data.toList = (byteL a).map UInt8.ofNat := by
 unfold bytesOf strOfNums byteL
 simp [Function.comp_def]
theorem refInt_ret (a : Nat) (ha : W256 a) : Ret Tryd.prog 45 #[wv a] (intV a) := by
 intro w
 have hn := num_lim a ha
 have l0 := lim_u64 a 0
 have l1 := lim_u64 a 1
 have l2 := lim_u64 a 2
 have l3 := lim_u64 a 3
 unfold U64 at l0 l1 l2 l3
 unfold num at hn
 obtain ⟨p0, q0⟩ := l0
 obtain ⟨p1, q1⟩ := l1
 obtain ⟨p2, q2⟩ := l2
 obtain ⟨p3, q3⟩ := l3
 unfold wv
 have HB := hid ((Below.refl _ w).alloc (Nat.le_refl _) (.cells #[.int .u64 (lim a 0), .int .u64 (lim a 1), .int .u64 (lim a 2), .int .u64 (lim a 3)] 24))
 by_cases c1 : 0 < lim a 1
 ·have e : intV a = .tuple #[.int .i64 0, .bool false] := by unfold intV maxI; rw [if_neg (by omega)]
  rw [e]
  clear hn e ha
  generalize lim a 0 = z0 at *; generalize lim a 1 = z1 at *; generalize lim a 2 = z2 at *; generalize lim a 3 = z3 at *
  go_enter Tryd.func45, Tryd.ntmps45
  go_wp2
  go_ret2
  exact ⟨rfl, HB.out⟩
 ·by_cases c2 : 0 < lim a 2
  ·have e : intV a = .tuple #[.int .i64 0, .bool false] := by unfold intV maxI; rw [if_neg (by omega)]
   rw [e]
   clear hn e ha
   generalize lim a 0 = z0 at *; generalize lim a 1 = z1 at *; generalize lim a 2 = z2 at *; generalize lim a 3 = z3 at *
   go_enter Tryd.func45, Tryd.ntmps45
   go_wp2
   go_ret2
   exact ⟨rfl, HB.out⟩
  ·by_cases c3 : 0 < lim a 3
   ·have e : intV a = .tuple #[.int .i64 0, .bool false] := by unfold intV maxI; rw [if_neg (by omega)]
    rw [e]
    clear hn e ha
    generalize lim a 0 = z0 at *; generalize lim a 1 = z1 at *; generalize lim a 2 = z2 at *; generalize lim a 3 = z3 at *
    go_enter Tryd.func45, Tryd.ntmps45
    go_wp2
    go_ret2
    exact ⟨rfl, HB.out⟩
   ·by_cases c0 : 4611686018427387903 < lim a 0
    ·have e : intV a = .tuple #[.int .i64 0, .bool false] := by unfold intV maxI; rw [if_neg (by omega)]
     rw [e]
     clear hn e ha
     generalize lim a 0 = z0 at *; generalize lim a 1 = z1 at *; generalize lim a 2 = z2 at *; generalize lim a 3 = z3 at *
     go_enter Tryd.func45, Tryd.ntmps45
     go_wp2
     go_ret2
     exact ⟨rfl, HB.out⟩
    ·have e : intV a = .tuple #[.int .i64 (lim a 0), .bool true] := by
      unfold intV maxI
      rw [if_pos (by omega), show (a : Int) = lim a 0 by omega]
     rw [e]
     clear hn e ha
     generalize lim a 0 = z0 at *; generalize lim a 1 = z1 at *; generalize lim a 2 = z2 at *; generalize lim a 3 = z3 at *
     go_enter Tryd.func45, Tryd.ntmps45
     go_wp2
     go_ret2
     exact ⟨rfl, HB.out⟩
def bytV (a n : Nat) : List Value := (List.range n).map fun j => Value.int .u8 (dg a (31 - j) : Int)
theorem bytV_succ (a n : Nat) : bytV a (n + 1) = bytV a n ++ [.int .u8 (dg a (31 - n) : Int)] := by simp [bytV, List.range_succ]
theorem bytes_back (a : Nat) : (⟨((byteL a).map UInt8.ofNat).toArray⟩ : ByteArray) = bytesOf a := by
 have h := bytesOf_list a
 cases hb : bytesOf a with
 | mk data =>
  rw [hb] at h
  simp only [] at h
  rw [← h]
theorem refBytes_ret (a : Nat) : Ret Tryd.prog 53 #[wv a] (.string (bytesOf a)) := by
 intro w
 have B0 := (Below.refl _ w).alloc (Nat.le_refl _) (.cells #[.int .u64 (lim a 0), .int .u64 (lim a 1), .int .u64 (lim a 2), .int .u64 (lim a 3)] 24)
 have s0 : w.heap.size + 1 ≤ (w.alloc (.cells #[.int .u64 (lim a 0), .int .u64 (lim a 1), .int .u64 (lim a 2), .int .u64 (lim a 3)] 24)).heap.size := by simp
 have DA := digits_any a
 unfold wv at DA ⊢
 go_enter Tryd.func53, Tryd.ntmps53
 go_wp2_with fail
 obtain ⟨W0, hW0⟩ : ∃ W0, w.alloc (.cells #[.int .u64 (lim a 0), .int .u64 (lim a 1), .int .u64 (lim a 2), .int .u64 (lim a 3)] 24) = W0 := ⟨_, rfl⟩
 rw [hW0] at B0 s0 ⊢
 clear hW0
 refine (DA _).mono ?_
 rintro e w1 ⟨g, cap, rfl, hg, X1, q⟩
 have B1 := B0.trans (q.mono B0.size)
 have hgl := X1.lt
 have R0 := World.ownsRow_nil w1 w1.heap.size 5 1
 have hs1 : w.heap.size ≤ w1.heap.size := B1.size
 clear q B0 DA s0 hg
 go_wp2
 go_loopw [4, 5] (fun t i wr => ∃ (z : Int) (k : Nat), i = .int .i64 z ∧ k ≤ 32 ∧ z = 31 - (k : Int) ∧ wr.ownsRow w1.heap.size 5 1 t k (bytV a k) ∧ IntsAt wr g 32 (fun j => (dg a j : Int)) ∧ Below w.heap.size w wr ∧ w1.heap.size ≤ wr.heap.size) (fun _ i _ => (intOf i + 1).toNat)
 case atStart => exact ⟨31, 0, rfl, by omega, by omega, R0, X1, B1, Nat.le_refl _⟩
 case round =>
  obtain ⟨z, k, rfl, hk, hz, hown, xx, hB, hsz⟩ := hrel
  clear R0 X1 B1
  by_cases hlt : k < 32
  ·obtain ⟨i, hi⟩ : ∃ i : Nat, z = i := ⟨31 - k, by omega⟩
   subst hi
   have hik : i = 31 - k := by omega
   have hi0 : (0 : Int) ≤ (i : Int) := by omega
   have hi9 : (i : Int) < 32 := by omega
   have cd := xx.cell (j := i) (by omega)
   have db := dg_lt a i
   have HV := hid (bytV_succ a k)
   rw [← hik] at HV
   have HK := hid hlt
   have HIK := hid hik
   have HX := hid xx
   have HO := hid hown
   have HB := hid hB
   have HZ := hid hsz
   have b0 : (0 : Int) ≤ (dg a i : Int) := by omega
   have b1 : (dg a i : Int) < 256 := by omega
   obtain ⟨i0, hi, hz0, hz1, hz2⟩ := info_parts infoB
   clear hk hz hlt hik hown xx hB hsz db
   generalize (dg a i : Int) = b at *
   go_wp2_with (at_builtin; refine wpList_append_own _ rfl _ _ 103 rfl w1.heap.size 5 i0 (.int .u8 0) 1 1 Tryd.underlying103 hi hz0 hz1 hz2 rfl (by decide) _ _ _ rfl (HO.out.alloc _) ⟨wr.heap.size, 0, none⟩ 1 1 [.int .u8 b] rfl rfl (cell_one _ _ _) (by simp [Value.oneCell']) (by unfold maxLen; have := HK.out; omega) (by have := HK.out; omega) (by have := HZ.out; simp; omega) ?_; intro v' w3 hown' hgrow hnil)
   clear hi hz0 hz1 hz2
   go_wp2
   go_roundw
   case rel =>
    have hxs3 := hgrow.size
    have hzz := HZ.out
    refine ⟨(i : Int) - 1, k + 1, by simp, HK.out, by have := HIK.out; have := HK.out; omega, ?_, ?_, ?_, by simp at hxs3; omega⟩
    ·rw [HV.out]; exact hown'
    ·exact (HX.out.alloc _).kept hgrow (fun e => by have := (HO.out.alloc (.cells #[.int .u8 b] 5)).lt _ e.symm; omega)
    ·exact (HB.out.alloc (by omega) _).grown hgrow (by simp; omega) (fun j e => by have := (HO.out.alloc (.cells #[.int .u8 b] 5)).lt j e; omega)
   case measure => first | (simp [intOf]; done) | (simp [intOf]; omega)
  ·obtain rfl : k = 32 := by omega
   obtain rfl : z = -1 := by omega
   obtain ⟨g', cap', rfl⟩ := ownsRow_succ (k := 31) hown
   have hback : (convert 103 9 (.slice (some ⟨g', 0, none⟩) 32 cap')).run Tryd.prog wr = .ok (.string (bytesOf a)) wr := by
    have hl : ((byteL a).map UInt8.ofNat).length = 32 := by simp [byteL]
    have h := run_convert_bytes_back (P := Tryd.prog) wr 103 9 5 ⟨g', 0, none⟩ cap' ((byteL a).map UInt8.ofNat) Tryd.underlying103 Tryd.underlying5 Tryd.underlying9 (fun j hj => by
     have hj2 : j < 32 := by omega
     have hcell := hown.cells (g := g') rfl j (.int .u8 (dg a (31 - j) : Int)) (by simp [bytV, hj2])
     rw [hcell]
     congr 2
     have hgt : ((byteL a).map UInt8.ofNat)[j] = UInt8.ofNat (byteN a (31 - j)) := by simp [byteL]
     refine Eq.trans ?_ (congrArg (fun c : UInt8 => (c.toNat : Int)) hgt).symm
     show (dg a (31 - j) : Int) = ((UInt8.ofNat (byteN a (31 - j))).toNat : Int)
     rw [UInt8.toNat_ofNat', Nat.mod_eq_of_lt (show byteN a (31 - j) < 2 ^ 8 from byteN_lt a _)]
     rfl)
    rw [hl, bytes_back] at h
    exact h
   have HB := hid hB
   clear hk hz hlt hown xx hB hsz
   go_wp2
   go_ret
   exact ⟨rfl, HB.out⟩
end
end Go.Proofs.YtlihnlkcgiopoaaDoor
