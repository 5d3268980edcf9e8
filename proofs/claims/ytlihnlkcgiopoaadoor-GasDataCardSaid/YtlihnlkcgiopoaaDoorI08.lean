/- Part. -/
import Derived.Test.YtlihnlkcgiopoaaDoorI07
import Derived.Test.YtlihnlkcgiopoaaDoorI06
import Derived.Calls
import Derived.Deep.AppendSrc
import Derived.Laws.AppendOwn
import Derived.Test.YtlihnlkcgiopoaaDoorI01
import Derived.Lib.QuietBelow
import Derived.Lib.SliceRun
import Derived.Deep.Upon
import Derived.Great.BuildSlice
import Derived.Lib.AppendZerosOnto
set_option maxRecDepth 100000
set_option maxHeartbeats 16000000
namespace Go.Proofs.YtlihnlkcgiopoaaDoor
section
open Go Go.RowKit Go.Shelf
attribute [local go_sem] Oper.semAt_some Grows wide_fn
theorem refOf_ret (n : Int) (h : I64 n) : Ret Tryd.prog 23 #[.int .i64 n] (wv (ofN n)) := by
 intro w
 have hI := h
 unfold I64 at h
 by_cases hn : n < 0
 ·rw [wv_of (of_neg n hI hn)]
  have hw : IntKind.u64.wrap n = 18446744073709551616 + n := by rw [IntKind.wrap_u64]; omega
  have h1 : -9223372036854775808 ≤ n := h.1
  obtain ⟨x, hx⟩ : ∃ x, x = 18446744073709551616 + n := ⟨_, rfl⟩
  rw [← hx] at hw ⊢
  have hx0 : 0 ≤ x := by omega
  have hx1 : x < 18446744073709551616 := by omega
  clear h hI hx
  go_enter Tryd.func23, Tryd.ntmps23
  go_wp2
  have A1 := (Arr4.mk0' w 24).alloc (.cells #[.int .u64 x, .int .u64 0, .int .u64 0, .int .u64 0] 24)
  have A2 := Arr4.new (w.alloc (.cells #[.int .u64 0, .int .u64 0, .int .u64 0, .int .u64 0] 24)) 24 x 0 0 0
  have B0 := ((Below.refl _ w).alloc (Nat.le_refl _) (.cells #[.int .u64 0, .int .u64 0, .int .u64 0, .int .u64 0] 24)).alloc (by simp) (.cells #[.int .u64 x, .int .u64 0, .int .u64 0, .int .u64 0] 24)
  rw [World.size_alloc] at A2
  obtain ⟨W0, hW0⟩ : ∃ W0, (w.alloc (.cells #[.int .u64 0, .int .u64 0, .int .u64 0, .int .u64 0] 24)).alloc (.cells #[.int .u64 x, .int .u64 0, .int .u64 0, .int .u64 0] 24) = W0 := ⟨_, rfl⟩
  rw [hW0] at A1 A2 B0 ⊢
  clear hW0
  go_loopw [4] (fun i wr => ∃ k : Nat, 1 ≤ k ∧ k ≤ 4 ∧ i = .int .i64 (k : Int) ∧ Arr4 wr w.heap.size 24 (fun _ => 0) ∧ Arr4 wr (w.heap.size + 1) 24 (fun j => if j = 0 then x else if j < k then 18446744073709551615 else 0) ∧ Below w.heap.size w wr) (fun i _ => 4 - (intOf i).toNat)
  case atStart => exact ⟨1, by omega, by omega, rfl, A1, A2.same4 rfl rfl rfl rfl, B0⟩
  case round =>
   obtain ⟨k, hk1, hk, rfl, a1, a2, hB⟩ := hrel
   clear A1 A2 B0
   by_cases hlt : k < 4
   ·have hkI : (k : Int) < 4 := by omega
    have hk0 : (0 : Int) ≤ (k : Int) := by omega
    have fp := a2.frozen k
    have cp := a2.cell hlt
    have N1 := Lib.hid (a1.other (p := ⟨w.heap.size + 1, k, none⟩) (by simp) (.int .u64 18446744073709551615))
    have N2 := Lib.hid (a2.set hlt 18446744073709551615)
    have N3 := Lib.hid (hB.setCell (p := ⟨w.heap.size + 1, k, none⟩) (by simp) (.int .u64 18446744073709551615))
    have HK := Lib.hid (And.intro hk1 hlt)
    clear hk1 hk hlt a1 a2 hB
    go_wp2
    go_roundw
    case rel =>
     have hk := HK.out
     refine ⟨k + 1, by omega, by omega, by simp, N1.out, ?_, N3.out⟩
     have e : (fun j => if j = 0 then x else if j < k + 1 then (18446744073709551615 : Int) else 0) = (fun j => if j = k then 18446744073709551615 else if j = 0 then x else if j < k then 18446744073709551615 else 0) := by
      funext j
      by_cases e1 : j = k
      ·rw [if_pos e1, if_neg (by omega), if_pos (by omega)]
      ·rw [if_neg e1]
       by_cases e2 : j = 0
       ·rw [if_pos e2, if_pos e2]
       ·rw [if_neg e2, if_neg e2]
        by_cases e3 : j < k
        ·rw [if_pos e3, if_pos (by omega)]
        ·rw [if_neg e3, if_neg (by omega)]
     rw [e]
     exact N2.out
    case measure => have := HK.out; simp [intOf]; omega
   ·obtain rfl : k = 4 := by omega
    have c0 : wr.cell? ⟨w.heap.size + 1, 0, none⟩ = some (.int .u64 x) := a2.cell (j := 0) (by omega)
    have c1 : wr.cell? ⟨w.heap.size + 1, 1, none⟩ = some (.int .u64 18446744073709551615) := a2.cell (j := 1) (by omega)
    have c2 : wr.cell? ⟨w.heap.size + 1, 2, none⟩ = some (.int .u64 18446744073709551615) := a2.cell (j := 2) (by omega)
    have c3 : wr.cell? ⟨w.heap.size + 1, 3, none⟩ = some (.int .u64 18446744073709551615) := a2.cell (j := 3) (by omega)
    have f0 := a1.frozen 0
    have f1 := a1.frozen 1
    have f2 := a1.frozen 2
    have f3 := a1.frozen 3
    have d0 := a1.cell (j := 0) (by omega)
    have d1 := a1.cell (j := 1) (by omega)
    have d2 := a1.cell (j := 2) (by omega)
    have d3 := a1.cell (j := 3) (by omega)
    have HA1 := Lib.hid a1
    have HB := Lib.hid hB
    clear hk1 hk hlt a1 a2 hB
    go_wp2
    refine bodyPost_ret (results_word rfl rfl (HA1.out.store (fun j => if j = 0 then x else 18446744073709551615))) rfl ⟨rfl, ?_⟩
    exact (((HB.out.setCell (p := ⟨w.heap.size, 0, none⟩) (by simp) _).setCell (p := ⟨w.heap.size, 1, none⟩) (by simp) _).setCell (p := ⟨w.heap.size, 2, none⟩) (by simp) _).setCell (p := ⟨w.heap.size, 3, none⟩) (by simp) _
 ·rw [wv_of (of_pos n hI hn)]
  have hn0 : 0 ≤ n := by omega
  have hn1 : n ≤ 9223372036854775807 := h.2
  have hw : IntKind.u64.wrap n = n := by rw [IntKind.wrap_u64]; omega
  have hn2 : n < 18446744073709551616 := by omega
  clear h hI
  go_enter Tryd.func23, Tryd.ntmps23
  go_wp2
  refine bodyPost_ret (results_word rfl rfl ((Arr4.new w 24 n 0 0 0).alloc (.cells #[.int .u64 n, .int .u64 0, .int .u64 0, .int .u64 0] 24))) rfl ⟨rfl, ?_⟩
  exact ((Below.refl _ w).alloc (Nat.le_refl _) _).alloc (by simp) _
def cmR (a b : Nat) : Nat → Int
 | 0 => 0
 | k + 1 => cmpN a b k (cmR a b k)
theorem cmR_four (a b : Nat) (ha : W256 a) (hb : W256 b) : cmR a b 4 = wcmp a b := cmp_parts a b ha hb
theorem refCmp_ret (a b : Nat) (ha : W256 a) (hb : W256 b) : Ret Tryd.prog 93 #[wv a, wv b] (.int .i64 (wcmp a b)) := by
 intro w
 have HC := Lib.hid (cmR_four a b ha hb)
 have A1 := (Arr4.word w 24 a).alloc (.cells #[.int .u64 (lim b 0), .int .u64 (lim b 1), .int .u64 (lim b 2), .int .u64 (lim b 3)] 24)
 have A2 := Arr4.word (w.alloc (.cells #[.int .u64 (lim a 0), .int .u64 (lim a 1), .int .u64 (lim a 2), .int .u64 (lim a 3)] 24)) 24 b
 have B0 := ((Below.refl _ w).alloc (Nat.le_refl _) (.cells #[.int .u64 (lim a 0), .int .u64 (lim a 1), .int .u64 (lim a 2), .int .u64 (lim a 3)] 24)).alloc (by simp) (.cells #[.int .u64 (lim b 0), .int .u64 (lim b 1), .int .u64 (lim b 2), .int .u64 (lim b 3)] 24)
 rw [World.size_alloc] at A2
 unfold wv
 clear ha hb
 go_enter Tryd.func93, Tryd.ntmps93
 go_wp2
 obtain ⟨W0, hW0⟩ : ∃ W0, (w.alloc (.cells #[.int .u64 (lim a 0), .int .u64 (lim a 1), .int .u64 (lim a 2), .int .u64 (lim a 3)] 24)).alloc (.cells #[.int .u64 (lim b 0), .int .u64 (lim b 1), .int .u64 (lim b 2), .int .u64 (lim b 3)] 24) = W0 := ⟨_, rfl⟩
 rw [hW0] at A1 A2 B0 ⊢
 clear hW0
 go_loopw [5] (fun i wr => ∃ (z : Int) (k : Nat), i = .int .i64 z ∧ k ≤ 4 ∧ z = (k : Int) - 1 ∧ cmR a b k = wcmp a b ∧ Arr4 wr w.heap.size 24 (lim a) ∧ Arr4 wr (w.heap.size + 1) 24 (lim b) ∧ Below w.heap.size w wr) (fun i _ => (intOf i + 1).toNat)
 case atStart => exact ⟨3, 4, rfl, by omega, by omega, HC.out, A1, A2, B0⟩
 case round =>
  obtain ⟨z, k, rfl, hk, hz, hc, a1, a2, hB⟩ := hrel
  clear A1 A2 B0 HC
  by_cases hk0 : 0 < k
  ·obtain ⟨i, rfl⟩ : ∃ i, k = i + 1 := ⟨k - 1, by omega⟩
   obtain rfl : z = (i : Int) := by omega
   have hi4 : i < 4 := by omega
   have hi0 : (0 : Int) ≤ (i : Int) := by omega
   have hiI : (i : Int) < 4 := by omega
   have hst : cmpO (cmR a b i) (lim a i) (lim b i) = wcmp a b := hc
   have HA1 := Lib.hid a1
   have HA2 := Lib.hid a2
   have HB := Lib.hid hB
   have HI := Lib.hid hi4
   have ca := a1.cell hi4
   have cb := a2.cell hi4
   have e1 : ∀ x : Ext wr, x.w.cell? ⟨w.heap.size, i, none⟩ = some (.int .u64 (lim a i)) := fun x => (HA1.out.later' x.below).cell HI.out
   have e2 : ∀ x : Ext wr, x.w.cell? ⟨w.heap.size + 1, i, none⟩ = some (.int .u64 (lim b i)) := fun x => (HA2.out.later' x.below).cell HI.out
   clear hk hz hk0 hc a1 a2 hB hi4 ca cb
   generalize lim a i = x at *
   generalize lim b i = y at *
   generalize hrr : cmR a b i = r at *
   have HRR := Lib.hid hrr
   clear hrr
   by_cases h1 : x < y
   ·have hw : wcmp a b = -1 := by rw [← hst]; unfold cmpO; rw [if_pos h1]
    have HW := Lib.hid hw
    clear hst hw
    go_wp2
    refine wp_region_quietR (C := Grows wr) (by kernel_rfl) (by kernel_rfl) (grows_refl wr) ?_
    repeat (go_big_quiet_step (fail))
    refine wpQuiet_nil ?_
    rintro _ ⟨xx, rfl⟩
    go_wp2
    go_ret
    exact ⟨by rw [HW.out]; rfl, HB.out.trans (xx.below.mono HB.out.size)⟩
   ·by_cases h2 : y < x
    ·have hw : wcmp a b = 1 := by rw [← hst]; unfold cmpO; rw [if_neg h1, if_pos h2]
     have HW := Lib.hid hw
     clear hst hw
     go_wp2
     refine wp_region_quietR (C := Grows wr) (by kernel_rfl) (by kernel_rfl) (grows_refl wr) ?_
     repeat (go_big_quiet_step (fail))
     refine wpQuiet_nil ?_
     rintro _ ⟨xx, rfl⟩
     have hB1 := HB.out.trans (xx.below.mono HB.out.size)
     have e3 : ∀ x' : Ext xx.w, x'.w.cell? ⟨w.heap.size, i, none⟩ = some (.int .u64 x) := fun x' => (x'.cell (p := ⟨_, i, none⟩) (HA1.out.later' xx.below).lt).trans (e1 xx)
     have e4 : ∀ x' : Ext xx.w, x'.w.cell? ⟨w.heap.size + 1, i, none⟩ = some (.int .u64 y) := fun x' => (x'.cell (p := ⟨_, i, none⟩) (HA2.out.later' xx.below).lt).trans (e2 xx)
     have HB1 := Lib.hid hB1
     clear e1 e2 hB1
     generalize xx.w = w5 at *
     go_wp2
     refine wp_region_quietR (C := Grows w5) (by kernel_rfl) (by kernel_rfl) (grows_refl w5) ?_
     repeat (go_big_quiet_step (fail))
     refine wpQuiet_nil ?_
     rintro _ ⟨xy, rfl⟩
     go_wp2
     go_ret
     exact ⟨by rw [HW.out]; rfl, HB1.out.trans (xy.below.mono HB1.out.size)⟩
    ·have hw : r = wcmp a b := by rw [← hst]; unfold cmpO; rw [if_neg h1, if_neg h2]
     have HW := Lib.hid (HRR.out.trans hw)
     clear hst hw
     go_wp2
     refine wp_region_quietR (C := Grows wr) (by kernel_rfl) (by kernel_rfl) (grows_refl wr) ?_
     repeat (go_big_quiet_step (fail))
     refine wpQuiet_nil ?_
     rintro _ ⟨xx, rfl⟩
     have hB1 := HB.out.trans (xx.below.mono HB.out.size)
     have N1 := HA1.out.later' xx.below
     have N2 := HA2.out.later' xx.below
     have e3 : ∀ x' : Ext xx.w, x'.w.cell? ⟨w.heap.size, i, none⟩ = some (.int .u64 x) := fun x' => (x'.cell (p := ⟨_, i, none⟩) N1.lt).trans (e1 xx)
     have e4 : ∀ x' : Ext xx.w, x'.w.cell? ⟨w.heap.size + 1, i, none⟩ = some (.int .u64 y) := fun x' => (x'.cell (p := ⟨_, i, none⟩) N2.lt).trans (e2 xx)
     have HB1 := Lib.hid hB1
     have HN1 := Lib.hid N1
     have HN2 := Lib.hid N2
     clear e1 e2 hB1 N1 N2
     generalize xx.w = w5 at *
     go_wp2
     refine wp_region_quietR (C := Grows w5) (by kernel_rfl) (by kernel_rfl) (grows_refl w5) ?_
     repeat (go_big_quiet_step (fail))
     refine wpQuiet_nil ?_
     rintro _ ⟨xy, rfl⟩
     have N5 := Lib.hid (HN1.out.later' xy.below)
     have N6 := Lib.hid (HN2.out.later' xy.below)
     have N7 := Lib.hid (HB1.out.trans (xy.below.mono HB1.out.size))
     go_wp2
     go_roundw
     case rel => exact ⟨(i : Int) - 1, i, by simp, by have := HI.out; omega, rfl, HW.out, N5.out, N6.out, N7.out⟩
     case measure => first | (simp [intOf]; done) | (simp [intOf]; omega)
  ·obtain rfl : k = 0 := by omega
   obtain rfl : z = -1 := by omega
   have hw : wcmp a b = 0 := hc.symm
   have HW := Lib.hid hw
   have HB := Lib.hid hB
   clear hk hz hk0 hc a1 a2 hB hw
   go_wp2
   go_ret
   exact ⟨by rw [HW.out]; rfl, HB.out⟩
end
section
open Go Go.RowKit
attribute [local go_sem] Oper.semAt_some Grows wide_fn

theorem eq4k (k : Nat) (a b c d a' b' c' d' : Int) (w : World) : (Op.equalIn (k + 2) 24 (.agg #[.int .u64 a, .int .u64 b, .int .u64 c, .int .u64 d]) (.agg #[.int .u64 a', .int .u64 b', .int .u64 c', .int .u64 d'])).run Tryd.prog w = .ok (a == a' && b == b' && c == c' && d == d') w := by
 have u3 := Tryd.underlying22
 have a3 := Tryd.isAgg22
 have z3 := Tryd.sizeOf22
 rw [Op.equalIn]
 simp only [Sem.run_bind, run_underlying Tryd.underlying24, Result.andThen_ok]
 simp only [Std.Legacy.Range.forIn_eq_forIn_range', Std.Legacy.Range.size, Nat.sub_zero, Nat.add_sub_cancel, Nat.div_one, List.range'_succ, List.range'_zero, List.forIn_cons, List.forIn_nil]
 go_simp
 by_cases h1 : a = a' <;> by_cases h2 : b = b' <;> by_cases h3 : c = c' <;> by_cases h4 : d = d' <;> simp [h1, h2, h3, h4]
theorem below_rowK {B g : Nat} {w0 w : World} (hb : Below B w0 w) (hBg : B ≤ g) (cs : Array Value) : Below B w0 (w.setRow g cs) :=
 hb.trans ⟨rfl, rfl, rfl, by simp [World.setRow], fun k hk => setRow_other w g k cs (by omega)⟩
theorem kyC_one (k : Ky) : (kyC k).all (·.oneCell') = true := by
 rw [Array.all_eq_true_iff_forall_mem]
 intro u hu
 exact kyL_one k u (by simpa [kyC] using hu)
end
section
open Go
def _root_.Go.Result.at {α : Type} : Result α → World
 | .ok _ w => w
 | .halt _ w => w
def _root_.Go.GStep.at : GStep → World
 | .go _ w _ => w
 | .comm _ _ _ _ w _ => w
 | .spawn _ _ w _ => w
 | .count _ w _ => w
 | .timer _ _ w _ => w
 | .alone _ _ w _ => w
 | .newcoro _ _ _ w _ => w
 | .coroswitch _ _ _ w _ => w
 | .collect _ w _ => w
 | .watch _ w _ => w
 | .ended _ w _ => w
def _root_.Go.Stepped.at : Stepped → World
 | .next m => m.world
 | .ended _ w => w
def _root_.Go.Move.low (n : Nat) : Move → Prop
 | .goroutine m _ => n ≤ m.world.drawn
 | .machine (.next m) _ => n ≤ m.world.drawn
 | .machine (.ended _ _) _ => True
end
section
open Go Go.RowKit
variable {P : Program} (w : World)
def NewBlock (w : World) (v v' : Value) : Prop := v'.ownBlock = v.ownBlock ∨ v'.ownBlock = some w.heap.size
end
section
open Go Go.RowKit
variable {P : Program} (w : World)
theorem run_append_src (base : Nat) (t tx ty e : TypeId) (i : TypeInfo) (z : Value) (size bytes : Nat) (ht : P.underlying t = some (.slice e)) (hi : P.info? e = some i) (hz : i.zero = some z)
  (hsize : i.size = size) (hby : i.bytes = bytes) (hzs : z.cells.size = size) (hs0 : 0 < size) (v : Value) (n : Nat) (xs : List Value) (hown : w.ownsRow base e size v n xs)
  (x : Value) (m : Nat) (hm : 0 < m) (news : List Value) (hsrc : Src P i.size tx x m news w)
  (hb : (n + m) * bytes ≤ 140737488355328) (h63 : n + m ≤ maxLen) (hbase : base ≤ w.heap.size) :
  ∃ v' w', (Builtin.append_ #[t, tx] ty #[v, x]).run P w = .ok v' w' ∧ w'.ownsRow base e size v' (n + m) (xs ++ news) ∧ w.grownBy w' v.ownBlock ∧ NewBlock w v v' := by
 have hl : news.length = m * size := by rw [← hsize]; exact hsrc.newsLen
 have hlen : (xs ++ news).length = (n + m) * size := by rw [List.length_append, hown.1, hl, Nat.add_mul]
 have grown : ∀ (old : Nat), old < n + m → ∀ (row : Option Nat),
   (w.drew.alloc (.cells (xs.toArray ++ news.toArray ++ Builtin.zeroCells z.cells (grownCap w (n + m) old e - (n + m))) e)).ownsRow base e size
    (.slice (some ⟨w.heap.size, 0, none⟩) (n + m) (grownCap w (n + m) old e)) (n + m) (xs ++ news) ∧
   w.grownBy (w.drew.alloc (.cells (xs.toArray ++ news.toArray ++ Builtin.zeroCells z.cells (grownCap w (n + m) old e - (n + m))) e)) row := by
  intro old ho row
  have hge := grownCap_ge w (n + m) old e
  have hcm : grownCap w (n + m) old e ≤ maxLen := grownCap_le_maxLen w (n + m) old e h63
  refine ⟨⟨hlen, .inr ⟨w.heap.size, _, _, rfl, hbase, heap_alloc_new w.drew _, hge, hcm, ?_, ?_⟩⟩, ⟨rfl, rfl, rfl, by simp, fun k hk _ => Below.heap_alloc w.drew _ k hk⟩⟩
  ·simp only [Array.size_append, List.size_toArray, size_zeroCells, hzs, hown.1, hl, ← Nat.add_mul]
   congr 1
   omega
  ·simp only [Array.toList_append, List.append_assoc]
   rw [← List.append_assoc, ← hlen]
   exact List.take_left
 rcases hown.2 with ⟨rfl, rfl⟩ | ⟨g, cap, cur, rfl, hbg, hg, hnc, hcm, hcs, htake⟩
 ·have hx : xs = [] := List.eq_nil_of_length_eq_zero (by simpa using hown.1)
  subst hx
  have hr := run_append_grow_src (P := P) w t tx ty e i z ht hi hz none 0 0 [] (by simp [Builtin.firstCells]) x m news hsrc (by omega) (by simp only [maxLen] at h63; omega) (growslice_fits (by omega) (by rw [hby]; exact hb))
  have hgr := grown 0 (by omega) (Value.ownBlock (.slice none 0 0))
  simp only [List.nil_append, Array.empty_append, Nat.zero_add] at hr hgr ⊢
  exact ⟨_, _, hr, hgr.1, hgr.2, .inr rfl⟩
 ·by_cases hroom : n + m ≤ cap
  ·have hfit : n * i.size + news.length ≤ cur.size := by rw [hl, hcs, hsize, ← Nat.add_mul]; exact Nat.mul_le_mul_right _ hroom
   have hst := run_storeCells_at P g (n * i.size) e news 0 cur w hg (by simpa using hfit) hsrc.one
   simp only [Nat.add_zero] at hst
   have hr : (Builtin.append_ #[t, tx] ty #[.slice (some ⟨g, 0, none⟩) n cap, x]).run P w = .ok (.slice (some ⟨g, 0, none⟩) (n + m) cap) (w.setRow g (cur.toList.take (n * i.size) ++ news ++ cur.toList.drop (n * i.size + news.length)).toArray) := by
    rcases hsrc.kind with ⟨e', hk⟩ | hk <;> simp [Builtin.append_, run_underlying ht, run_underlying hk, sizeOf, typeInfo, hi, hsrc.len, hroom, hsrc.cells, Addr.add_lit, hst]
   rw [hsize] at hr
   refine ⟨_, _, hr, ⟨hlen, .inr ⟨g, cap, _, rfl, hbg, setRow_heap w g cur _ e _ hg, hroom, hcm, ?_, ?_⟩⟩, ⟨rfl, rfl, rfl, by simp, fun k _ hk => setRow_other w g k _ (fun e => hk (by simp [Value.ownBlock, e]))⟩, .inl rfl⟩
   ·rw [hsize] at hfit
    simp only [List.size_toArray, List.length_append, List.length_take, List.length_drop, Array.length_toList]
    omega
   ·rw [htake, ← hlen]
    exact List.take_left
  ·have holds : (Builtin.firstCells i.size n (.slice (some ⟨g, 0, none⟩) n cap)).run P w.drew = .ok xs.toArray w.drew := by
    rw [hsize]
    exact run_firstCells_some w.drew size n ⟨g, 0, none⟩ n cap xs hown.1 (fun j u hj => by
     have := hown.cells (g := g) rfl j u hj
     simpa using this)
   have hr := run_append_grow_src (P := P) w t tx ty e i z ht hi hz (some ⟨g, 0, none⟩) n cap xs holds x m news hsrc (by omega) (by simp only [maxLen] at h63; omega) (growslice_fits (by omega) (by rw [hby]; exact hb))
   have hgr := grown cap (by omega) (Value.ownBlock (.slice (some ⟨g, 0, none⟩) n cap))
   have hap : ((xs ++ news).toArray : Array Value) = xs.toArray ++ news.toArray := by simp
   rw [hap] at hr
   exact ⟨_, _, hr, hgr.1, hgr.2, .inr rfl⟩
end
section
open Go Go.RowKit
attribute [local go_sem] Oper.semAt_some Grows wide_fn
def flatKy (l : List Ky) : List Value := l.flatMap kyL
theorem flatKy_length : ∀ (l : List Ky), (flatKy l).length = l.length * 25
 | [] => rfl
 | x :: l => by
  have := flatKy_length l
  simp only [flatKy, List.flatMap_cons, List.length_append, List.length_cons] at this ⊢
  rw [this, kyL_len]
  omega
theorem flatKy_at : ∀ (l : List Ky) (i : Nat) (x : Ky) (j : Nat), l[i]? = some x → j < 25 → (flatKy l)[i * 25 + j]? = (kyL x)[j]?
 | [], i, x, j, h, _ => by simp at h
 | y :: l, 0, x, j, h, hj => by
  simp at h
  subst h
  rw [show flatKy (y :: l) = kyL y ++ flatKy l from rfl, List.getElem?_append_left (by rw [kyL_len]; omega), Nat.zero_mul, Nat.zero_add]
 | y :: l, i + 1, x, j, h, hj => by
  rw [show flatKy (y :: l) = kyL y ++ flatKy l from rfl, List.getElem?_append_right (by rw [kyL_len]; omega), kyL_len, show (i + 1) * 25 + j - 25 = i * 25 + j by omega]
  exact flatKy_at l i x j (by simpa using h) hj
def KRow (W : World) (base : Nat) (v : Value) (l : List Ky) : Prop := W.ownsRow base 58 25 v l.length (flatKy l)
theorem KRow.keys {W : World} {base : Nat} {v : Value} {l : List Ky} (h : KRow W base v l) (hw : ∀ x ∈ l, KyOk x) : KeysAt W v l := by
 rcases h.2 with ⟨rfl, h0⟩ | ⟨g, cap, cur, rfl, hbg, hg', hnc, hcm, hcs, htake⟩
 ·have : l = [] := List.eq_nil_of_length_eq_zero h0
  subst this
  exact KeysAt.nil W
 ·refine ⟨some ⟨g, 0, none⟩, cap, rfl, hnc, by simpa [maxLen] using hcm, hw, fun i x hx => ⟨⟨g, 0, none⟩, rfl, fun j u hj => ?_⟩⟩
  have hj25 : j < 25 := by have := (List.getElem?_eq_some_iff.1 hj).1; rwa [kyL_len] at this
  rw [Addr.add_add]
  exact World.ownsRow.cells h (g := g) rfl _ _ ((flatKy_at l i x j hx hj25).trans hj)
theorem KRow.later {W X : World} {base : Nat} {v : Value} {l : List Ky} (h : KRow W base v l) (hb : Below W.heap.size W X) : KRow X base v l := by
 refine ⟨h.1, ?_⟩
 rcases h.2 with h0 | ⟨g, cap, cur, rfl, hbg, hg', hr⟩
 ·exact .inl h0
 ·exact .inr ⟨g, cap, cur, rfl, hbg, (hb.block g (Array.getElem?_eq_some_iff.1 hg').1).trans hg', hr⟩
theorem infoK : (Tryd.prog.info? 58).map (fun i => (i.zero, i.size, i.bytes)) = some (some (.agg #[.int .u8 0, .int .u8 0, .int .u8 0, .int .u8 0, .int .u8 0, .int .u8 0, .int .u8 0, .int .u8 0, .int .u8 0, .int .u8 0, .int .u8 0, .int .u8 0, .int .u8 0, .int .u8 0, .int .u8 0, .int .u8 0, .int .u8 0, .int .u8 0, .int .u8 0, .int .u8 0, .bool false, .int .u64 0, .int .u64 0, .int .u64 0, .int .u64 0]), 25, 56) := by kernel_rfl
theorem infoK_of : ∃ i, Tryd.prog.info? 58 = some i ∧ i.zero = some (.agg #[.int .u8 0, .int .u8 0, .int .u8 0, .int .u8 0, .int .u8 0, .int .u8 0, .int .u8 0, .int .u8 0, .int .u8 0, .int .u8 0, .int .u8 0, .int .u8 0, .int .u8 0, .int .u8 0, .int .u8 0, .int .u8 0, .int .u8 0, .int .u8 0, .int .u8 0, .int .u8 0, .bool false, .int .u64 0, .int .u64 0, .int .u64 0, .int .u64 0]) ∧ i.size = 25 ∧ i.bytes = 56 := by
 have h := infoK
 rcases hi : Tryd.prog.info? 58 with _ | i
 ·rw [hi] at h; cases h
 ·rw [hi] at h
  injection h with h
  simp only [Prod.mk.injEq] at h
  exact ⟨i, rfl, h.1, h.2.1, h.2.2⟩
theorem wpList_append_runK {P : Program} {w w' : World} {ops : Array Oper} {rest : List Oper} {o : Oper} {a : Act} {Q : Exit → Act → World → Prop}
  (hg : o.guard = none) (s x : Operand) (t : TypeId) (hop : o.op = Op.call { callee := Callee.builtin Builtin.append, args := #[s, x], argTypes := #[t, t] })
  (v x0 v' : Value) (hs : a.eval s = v) (hx : a.eval x = x0) (hr : (Builtin.append_ #[t, t] o.type #[v, x0]).run P w = .ok v' w')
  (hK : wpList P ops Q rest (a.put o.dst v') w') : wpList P ops Q (o :: rest) a w := by
 refine wpList_plain hg fun K hK' => ?_
 unfold Oper.wp execOp
 simp only [hop, resolve, invoke, builtin, Sem.run_bind, Sem.run_pure, Result.andThen_ok, List.map_toArray, List.map_cons, List.map_nil, hs, hx, hr]
 exact hK' _ _ hK
end
section
open Go Go.RowKit
attribute [local go_sem] Oper.semAt_some Grows wide_fn eq4
theorem wv_natG (n : Nat) (h : n < 18446744073709551616) : wv n = .agg #[.int .u64 (n : Int), .int .u64 0, .int .u64 0, .int .u64 0] := by
 refine wv_of ⟨?_, ?_, ?_, ?_⟩
 ·show ((n % 18446744073709551616 : Nat) : Int) = _
  rw [Nat.mod_eq_of_lt h]
 ·show ((n / 18446744073709551616 % 18446744073709551616 : Nat) : Int) = _
  rw [Nat.div_eq_of_lt h]; rfl
 ·show ((n / 340282366920938463463374607431768211456 % 18446744073709551616 : Nat) : Int) = _
  rw [Nat.div_eq_of_lt (by omega)]; rfl
 ·show ((n / 6277101735386680763835789423207666416102355444464034512896 % 18446744073709551616 : Nat) : Int) = _
  rw [Nat.div_eq_of_lt (by omega)]; rfl
theorem ofRG (n : Nat) (h : n ≤ 9223372036854775807) : Ret Tryd.prog 23 #[.int .i64 (n : Int)] (.agg #[.int .u64 (n : Int), .int .u64 0, .int .u64 0, .int .u64 0]) := by
 have h1 := refOf_ret (n : Int) (by unfold I64; omega)
 rw [ofN_nat, wv_natG n (by omega)] at h1
 exact h1
theorem fill_k1G (x : Ky) (cells : Array Value) (h : cells.size = 25) : Instr.fill (fun i => some (i * 25, 25)) cells [(0, .agg (kyC x))] = some (flatKy [x]).toArray := by
 have := Great.fill_whole (s := 25) (by decide) [.agg (kyC x)] cells (fun v hv => by
  simp at hv
  subst hv
  exact kyC_size x) (by simp [h])
 simpa [Value.cells, flatKy, kyC] using this
theorem infoKzG : ∃ i z, Tryd.prog.info? 58 = some i ∧ i.zero = some z ∧ i.size = 25 := by
 obtain ⟨i, hi, hz, hs⟩ := infoK_of
 exact ⟨i, _, hi, hz, hs.1⟩
theorem wpList_build_k1G {ops : Array Oper} {rest : List Oper} {o : Oper} {a : Act} {w : World} {Q : Exit → Act → World → Prop} (hw : Region.wanted o (yielded ops a.tmps) = true) (y : Operand) (ho : o.op = .buildSlice 28 1 #[(0, y)]) (x : Ky) (hy : a.eval y = .agg (kyC x))
  (h : wpList Tryd.prog ops Q rest (a.put o.dst (.slice (some ⟨w.heap.size, 0, none⟩) 1 1)) (w.alloc (.cells (flatKy [x]).toArray 58))) : wpList Tryd.prog ops Q (o :: rest) a w := by
 obtain ⟨i, z, hi, hz, hsz⟩ := infoKzG
 refine BigFrame.wpList_want hw fun K hK => wp_buildSlice 28 58 1 #[(0, y)] ho (flatKy [x]).toArray i z Tryd.underlying28 hi hz (by rw [hsz]; decide) (by rw [hsz]; decide) ?_ (hK _ _ h)
 rw [hsz]
 simp only [List.map_toArray, List.map_cons, List.map_nil, hy]
 exact fill_k1G x _ (by simp)
def kyNone : Ky := ⟨0, false, 0⟩
theorem kyNone_ok : KyOk kyNone := ⟨by decide, by show W256 0; unfold W256; decide⟩
theorem kyNone_cells : (.agg #[.int .u8 0, .int .u8 0, .int .u8 0, .int .u8 0, .int .u8 0, .int .u8 0, .int .u8 0, .int .u8 0, .int .u8 0, .int .u8 0, .int .u8 0, .int .u8 0, .int .u8 0, .int .u8 0, .int .u8 0, .int .u8 0, .int .u8 0, .int .u8 0, .int .u8 0, .int .u8 0, .bool false, .int .u64 0, .int .u64 0, .int .u64 0, .int .u64 0] : Value) = .agg (kyC kyNone) := by rfl
theorem keys_one (w : World) (x : Ky) (hx : KyOk x) : KeysAt (w.alloc (.cells (flatKy [x]).toArray 58)) (.slice (some ⟨w.heap.size, 0, none⟩) 1 1) [x] := by
 refine ⟨some ⟨w.heap.size, 0, none⟩, 1, rfl, by simp, by decide, fun y hy => by rw [List.mem_singleton.1 hy]; exact hx, fun i y hy => ?_⟩
 refine ⟨⟨w.heap.size, 0, none⟩, rfl, fun j u hj => ?_⟩
 have hi : i = 0 := by
  have := (List.getElem?_eq_some_iff.1 hy).1
  simpa using this
 subst hi
 simp at hy
 subst hy
 rw [Nat.zero_mul, add_lit, add_lit]
 refine (Has.new w 58 (flatKy [x]).toArray).cell _ _ ?_
 simp only [Nat.zero_add, List.getElem?_toArray]
 rw [show flatKy [x] = kyL x by simp [flatKy]]
 exact hj
theorem awakeG_walk  (o0 : Ret Tryd.prog 23 #[.int .i64 0] (.agg #[.int .u64 0, .int .u64 0, .int .u64 0, .int .u64 0])) (o1 : Ret Tryd.prog 23 #[.int .i64 1] (.agg #[.int .u64 1, .int .u64 0, .int .u64 0, .int .u64 0])) (om : Ret Tryd.prog 23 #[.int .i64 (-1)] (.agg #[.int .u64 18446744073709551615, .int .u64 18446744073709551615, .int .u64 18446744073709551615, .int .u64 18446744073709551615])) (o256 : Ret Tryd.prog 23 #[.int .i64 256] (.agg #[.int .u64 256, .int .u64 0, .int .u64 0, .int .u64 0])) (s1 : Ret Tryd.prog 21 #[.agg #[.int .u64 0, .int .u64 0, .int .u64 0, .int .u64 0], .agg #[.int .u64 0, .int .u64 0, .int .u64 0, .int .u64 0], .agg #[.int .u64 1, .int .u64 0, .int .u64 0, .int .u64 0], .bool true] (.tuple #[.int .i64 20000, .int .i64 0])) (s2 : Ret Tryd.prog 21 #[.agg #[.int .u64 0, .int .u64 0, .int .u64 0, .int .u64 0], .agg #[.int .u64 1, .int .u64 0, .int .u64 0, .int .u64 0], .agg #[.int .u64 0, .int .u64 0, .int .u64 0, .int .u64 0], .bool true] (.tuple #[.int .i64 100, .int .i64 19900])) (c1 : Ret Tryd.prog 24 #[.int .i64 6500, .agg #[.int .u64 18446744073709551615, .int .u64 18446744073709551615, .int .u64 18446744073709551615, .int .u64 18446744073709551615], .bool true, .bool false, .bool false] (.tuple #[.int .i64 6400, .int .i64 6300, .bool true])) (c2 : Ret Tryd.prog 24 #[.int .i64 99, .agg #[.int .u64 1, .int .u64 0, .int .u64 0, .int .u64 0], .bool true, .bool false, .bool false] (.tuple #[.int .i64 0, .int .i64 0, .bool false])) (ex : Ret Tryd.prog 27 #[.agg #[.int .u64 256, .int .u64 0, .int .u64 0, .int .u64 0]] (.int .i64 100)) (cp : Ret Tryd.prog 11 #[.int .i64 33] (.int .i64 6)) (ha : Ret Tryd.prog 13 #[.int .i64 1] (.int .i64 6)) (lo : Ret Tryd.prog 15 #[.int .i64 5] (.int .i64 40)) (ini : Ret Tryd.prog 17 #[.int .i64 32, .bool true] (.int .i64 8)) (to : Ret Tryd.prog 29 #[.bool true, .bool false] (.int .i64 2100)) (sta : Ret Tryd.prog 31 #[.string ⟨#[0, 97]⟩, .bool true] (.int .i64 53022)) (ba : Ret Tryd.prog 19 #[.int .i64 100, .int .i64 50] (.int .i64 20)) :
  Ret Tryd.prog 9 #[] (.bool true) := by
 intro w
 have Ho0 := hid o0
 have Ho1 := hid o1
 have Hom := hid om
 have Ho256 := hid o256
 have Hs1 := hid s1
 have Hs2 := hid s2
 have Hc1 := hid c1
 have Hc2 := hid c2
 have Hex := hid ex
 have Hcp := hid cp
 have Hha := hid ha
 have Hlo := hid lo
 have Hini := hid ini
 have Hto := hid to
 have Hsta := hid sta
 have Hba := hid ba
 clear o0 o1 om o256 s1 s2 c1 c2 ex cp ha lo ini to sta ba
 go_enter Tryd.func9, Tryd.ntmps9
 go_wp2_with fail
 refine (Ho0.out _).mono ?_
 rintro e v1 ⟨rfl, q⟩
 have Q := q
 clear q
 go_wp2_with fail
 refine (Ho0.out _).mono ?_
 rintro e v2 ⟨rfl, q⟩
 have Q := Q.trans (q.mono Q.size)
 clear q
 go_wp2_with fail
 refine (Ho1.out _).mono ?_
 rintro e v3 ⟨rfl, q⟩
 have Q := Q.trans (q.mono Q.size)
 clear q
 go_wp2_with fail
 refine (Hs1.out _).mono ?_
 rintro e v4 ⟨rfl, q⟩
 have Q := Q.trans (q.mono Q.size)
 clear q
 go_wp2_with fail
 refine (Ho0.out _).mono ?_
 rintro e v5 ⟨rfl, q⟩
 have Q := Q.trans (q.mono Q.size)
 clear q
 go_wp2_with fail
 refine (Ho1.out _).mono ?_
 rintro e v6 ⟨rfl, q⟩
 have Q := Q.trans (q.mono Q.size)
 clear q
 go_wp2_with fail
 refine (Ho0.out _).mono ?_
 rintro e v7 ⟨rfl, q⟩
 have Q := Q.trans (q.mono Q.size)
 clear q
 go_wp2_with fail
 refine (Hs2.out _).mono ?_
 rintro e v8 ⟨rfl, q⟩
 have Q := Q.trans (q.mono Q.size)
 clear q
 go_wp2_with fail
 refine (Hom.out _).mono ?_
 rintro e v9 ⟨rfl, q⟩
 have Q := Q.trans (q.mono Q.size)
 clear q
 go_wp2_with fail
 refine (Hc1.out _).mono ?_
 rintro e v10 ⟨rfl, q⟩
 have Q := Q.trans (q.mono Q.size)
 clear q
 go_wp2_with fail
 refine (Ho1.out _).mono ?_
 rintro e v11 ⟨rfl, q⟩
 have Q := Q.trans (q.mono Q.size)
 clear q
 go_wp2_with fail
 refine (Hc2.out _).mono ?_
 rintro e v12 ⟨rfl, q⟩
 have Q := Q.trans (q.mono Q.size)
 clear q
 go_wp2_with fail
 refine (Ho256.out _).mono ?_
 rintro e v13 ⟨rfl, q⟩
 have Q := Q.trans (q.mono Q.size)
 clear q
 go_wp2_with fail
 refine (Hex.out _).mono ?_
 rintro e v14 ⟨rfl, q⟩
 have Q := Q.trans (q.mono Q.size)
 clear q
 go_wp2_with fail
 refine (Hcp.out _).mono ?_
 rintro e v15 ⟨rfl, q⟩
 have Q := Q.trans (q.mono Q.size)
 clear q
 go_wp2_with fail
 refine (Hha.out _).mono ?_
 rintro e v16 ⟨rfl, q⟩
 have Q := Q.trans (q.mono Q.size)
 clear q
 go_wp2_with fail
 refine (Hlo.out _).mono ?_
 rintro e v17 ⟨rfl, q⟩
 have Q := Q.trans (q.mono Q.size)
 clear q
 go_wp2_with fail
 refine (Hini.out _).mono ?_
 rintro e v18 ⟨rfl, q⟩
 have Q := Q.trans (q.mono Q.size)
 clear q
 go_wp2_with fail
 refine (Hto.out _).mono ?_
 rintro e v19 ⟨rfl, q⟩
 have Q := Q.trans (q.mono Q.size)
 clear q
 go_wp2_with fail
 refine (Hsta.out _).mono ?_
 rintro e v20 ⟨rfl, q⟩
 have Q := Q.trans (q.mono Q.size)
 clear q
 go_wp2_with fail
 refine (Hba.out _).mono ?_
 rintro e v21 ⟨rfl, q⟩
 have Q := Q.trans (q.mono Q.size)
 clear q
 have HQ := hid Q
 clear Q
 go_wp2_with (refine wpList_build_k1G rfl (.tmp 110) rfl kyNone kyNone_cells ?_)
 refine (declared_any _ _ _ [kyNone] [] (keys_one _ _ kyNone_ok) (KeysAt.nil _) (by decide)).mono ?_
 rintro e w9 ⟨rfl, q9⟩
 rw [show ((declN [kyNone] [] : Nat) : Int) = 2400 by decide +kernel]
 have Q9 := hid (q9)
 clear q9
 go_wp2
 go_ret
 refine ⟨rfl, (HQ.out.trans ?_)⟩
 exact (((Below.refl v21.heap.size v21).alloc (Nat.le_refl _) _).trans (Q9.out.mono (by simp))).mono HQ.out.size
theorem awakeG_ret : Ret Tryd.prog 9 #[] (.bool true) := by
 have w0 : wv 0 = .agg #[.int .u64 0, .int .u64 0, .int .u64 0, .int .u64 0] := wv_natG 0 (by decide)
 have w1 : wv 1 = .agg #[.int .u64 1, .int .u64 0, .int .u64 0, .int .u64 0] := wv_natG 1 (by decide)
 have wm : wv (2 ^ 256 - 1) = .agg #[.int .u64 18446744073709551615, .int .u64 18446744073709551615, .int .u64 18446744073709551615, .int .u64 18446744073709551615] := by rfl
 have w256 : wv 256 = .agg #[.int .u64 256, .int .u64 0, .int .u64 0, .int .u64 0] := wv_natG 256 (by decide)
 have h0 : W256 0 := by unfold W256; decide
 have h1 : W256 1 := by unfold W256; decide
 have h2 : W256 256 := by unfold W256; decide
 have hm : W256 (2 ^ 256 - 1) := by unfold W256; decide
 have om := refOf_ret (-1) (by unfold I64; decide)
 rw [show ofN (-1) = 2 ^ 256 - 1 by decide +kernel, wm] at om
 have s1 := store_ret 0 0 1 h0 h0 h1 true
 have s2 := store_ret 0 1 0 h0 h1 h0 true
 rw [w0, w1] at s1 s2
 have c1 := call_ret 6500 (2 ^ 256 - 1) hm true false false
 rw [wm] at c1
 have c2 := call_ret 99 1 h1 true false false
 rw [w1] at c2
 have ex := exp_retG 256 h2
 rw [w256] at ex
 exact awakeG_walk (ofRG 0 (by decide)) (ofRG 1 (by decide)) om (ofRG 256 (by decide)) (Ret.of_eq s1 rfl (by rfl)) (Ret.of_eq s2 rfl (by rfl)) (Ret.of_eq c1 rfl (by unfold callV; rw [if_neg (by decide +kernel)]; simp only [show ownN (6500 - callingN true false false) (2 ^ 256 - 1) = 6300 by decide +kernel]; rfl)) (Ret.of_eq c2 rfl (by unfold callV; rw [if_pos (by decide +kernel)]))
  (Ret.of_eq ex rfl (by rw [show nbG 256 = 2 by decide +kernel]; rfl)) (Ret.of_eq (copy_retG 33) rfl (by rw [show 3 * wordsN 33 = 6 by decide +kernel])) (Ret.of_eq (hash_retG 1) rfl (by rw [show 6 * wordsN 1 = 6 by decide +kernel])) (Ret.of_eq (log_retG 5) rfl (by rw [show 8 * manyN 5 = 40 by decide +kernel])) (Ret.of_eq (init_ret 32 true) rfl (by rw [show initN 32 true = 8 by decide +kernel])) (Ret.of_eq (touch_ret true false) rfl rfl)
  (Ret.of_eq (start_ret ⟨#[0, 97]⟩ (by decide) true) rfl (by rw [show startN ⟨#[0, 97]⟩ true = 53022 by decide +kernel])) (Ret.of_eq (back_ret 100 50 (by unfold I64; decide)) rfl (by rw [show backN 100 50 = 20 by decide +kernel]))
end
section
open Go Go.RowKit
attribute [local go_sem] Oper.semAt_some Grows wide_fn
end
section
open Go Go.RowKit
noncomputable def insK (x : Ky) : List Ky → List Ky
 | [] => [x]
 | y :: r => if kcmp x y < 0 then x :: y :: r else if kcmp x y = 0 then y :: r else y :: insK x r
theorem insK_mem (x : Ky) : ∀ (l : List Ky) (z : Ky), z ∈ insK x l ↔ z = x ∨ z ∈ l
 | [], z => by simp [insK]
 | y :: r, z => by
  unfold insK
  split
  ·simp
  ·split
   ·rename_i h
    have := kcmp_zero.1 h
    subst this
    simp
   ·rw [List.mem_cons, insK_mem x r, List.mem_cons]
    constructor
    ·rintro (h | h | h)
     ·exact .inr (.inl h)
     ·exact .inl h
     ·exact .inr (.inr h)
    ·rintro (h | h | h)
     ·exact .inr (.inl h)
     ·exact .inl h
     ·exact .inr (.inr h)
theorem insK_up (x : Ky) : ∀ (l : List Ky), Kup l → Kup (insK x l)
 | [], _ => List.pairwise_singleton _ _
 | y :: r, h => by
  have h1 := List.pairwise_cons.1 h
  unfold insK
  split
  ·rename_i hlt
   refine List.pairwise_cons.2 ⟨fun z hz => ?_, h⟩
   rcases List.mem_cons.1 hz with rfl | hz
   ·exact hlt
   ·exact Kl.trans hlt (h1.1 z hz)
  ·split
   ·exact h
   ·rename_i h2 h3
    refine List.pairwise_cons.2 ⟨fun z hz => ?_, insK_up x r h1.2⟩
    rcases (insK_mem x r z).1 hz with rfl | hz
    ·rcases kcmp_tri z y with ⟨h, _⟩ | ⟨_, h⟩ | ⟨h, _⟩
     ·exact absurd h h2
     ·exact absurd h h3
     ·exact h
    ·exact h1.1 z hz
theorem insK_len (x : Ky) : ∀ (l : List Ky), (insK x l).length ≤ l.length + 1
 | [] => Nat.le_refl _
 | y :: r => by
  unfold insK
  split
  ·simp
  ·split
   ·simp
   ·have := insK_len x r
    simp only [List.length_cons]
    omega
noncomputable def setL (l : List Ky) : List Ky := l.foldl (fun s x => insK x s) []
theorem setL_snoc (l : List Ky) (x : Ky) : setL (l ++ [x]) = insK x (setL l) := by simp [setL]
theorem foldK (l : List Ky) : ∀ s : List Ky, Kup s → Kup (l.foldl (fun s x => insK x s) s) ∧ ∀ z, z ∈ l.foldl (fun s x => insK x s) s ↔ z ∈ s ∨ z ∈ l := by
 induction l with
 | nil => intro s h; exact ⟨h, fun z => by simp⟩
 | cons x r ih =>
  intro s h
  obtain ⟨h1, h2⟩ := ih (insK x s) (insK_up x s h)
  refine ⟨h1, fun z => ?_⟩
  rw [List.foldl_cons, h2, insK_mem, List.mem_cons]
  constructor
  ·rintro ((h | h) | h)
   ·exact .inr (.inl h)
   ·exact .inl h
   ·exact .inr (.inr h)
  ·rintro (h | h | h)
   ·exact .inl (.inr h)
   ·exact .inl (.inl h)
   ·exact .inr h
theorem setL_up (l : List Ky) : Kup (setL l) := (foldK l [] List.Pairwise.nil).1
theorem setL_len (l : List Ky) : (setL l).length ≤ l.length := by
 have key : ∀ (l s : List Ky), (l.foldl (fun s x => insK x s) s).length ≤ s.length + l.length := by
  intro l
  induction l with
  | nil => intro s; simp
  | cons x r ih =>
   intro s
   have h1 := ih (insK x s)
   have h2 := insK_len x s
   rw [List.foldl_cons, List.length_cons]
   omega
 simpa [setL] using key l []
end
section
open Go Go.RowKit
attribute [local go_sem] Oper.semAt_some Grows wide_fn
theorem KRow.nil (W : World) (base : Nat) : KRow W base (.slice none 0 0) [] := World.ownsRow_nil _ _ _ _
theorem KRow.shapeK {W : World} {base : Nat} {v : Value} {l : List Ky} (h : KRow W base v l) : ∃ a cap, v = .slice a l.length cap := by
 rcases h.2 with ⟨rfl, h0⟩ | ⟨g, cap, cur, rfl, _⟩
 ·exact ⟨none, 0, by rw [h0]⟩
 ·exact ⟨_, _, rfl⟩
theorem KRow.blockK {W : World} {base : Nat} {v : Value} {l : List Ky} (h : KRow W base v l) {b : Nat} (hb : v.ownBlock = some b) : base ≤ b ∧ ∃ cs, W.heap[b]? = some (.cells cs 58 (0, 0)) := by
 rcases h.2 with ⟨rfl, h0⟩ | ⟨g, cap, cur, rfl, hbg, hg', _⟩
 ·cases hb
 ·injection hb with hb
  subst hb
  exact ⟨hbg, cur, hg'⟩
theorem flatKy_append (a b : List Ky) : flatKy (a ++ b) = flatKy a ++ flatKy b := by simp [flatKy]
theorem infoKz_of : ∃ i z, Tryd.prog.info? 58 = some i ∧ i.zero = some z ∧ z.cells.size = 25 ∧ i.size = 25 ∧ i.bytes = 56 := by
 obtain ⟨i, h1, h2, h3, h4⟩ := infoK_of
 exact ⟨i, _, h1, h2, rfl, h3, h4⟩
theorem append_keys (A : World) (base : Nat) (v : Value) (ps : List Ky) (h : KRow A base v ps) (hb : base ≤ A.heap.size) (sv : Value) (qs : List Ky) (hq : KeysAt A sv qs) (hl : ps.length + qs.length ≤ 100000) :
  ∃ v' w', (Builtin.append_ #[28, 28] 28 #[v, sv]).run Tryd.prog A = .ok v' w' ∧ KRow w' base v' (ps ++ qs) ∧ A.grownBy w' v.ownBlock ∧ Below base A w' := by
 obtain ⟨i, z, hi, hz, hzs, hsize, hby⟩ := infoKz_of
 have bel : ∀ w', A.grownBy w' v.ownBlock → Below base A w' := fun w' hgr => ⟨hgr.os, hgr.tape, hgr.output, hgr.size, fun k hk => hgr.block k (by omega) (fun e => by have := (h.blockK e.symm).1; omega)⟩
 obtain ⟨a, cap, rfl, h2, h3, _, h5⟩ := hq
 cases qs with
 | nil =>
  obtain ⟨av, cv, rfl⟩ := h.shapeK
  have hr := run_append_nothing (P := Tryd.prog) A 28 28 28 58 i Tryd.underlying28 hi av ps.length cv (by
   rcases h.2 with ⟨e, h0⟩ | ⟨g, cap, cur, e, hbg, hg', hnc, _⟩
   ·injection e with _ _ e; omega
   ·injection e with _ _ e; subst e; exact hnc) (.slice a 0 cap) (by
   cases a with
   | none => exact Src.ofNil _ Tryd.underlying28 cap
   | some b => exact Src.ofSlice _ Tryd.underlying28 b 0 cap [] (by simp) (fun j u hj => by simp at hj) (fun u hu => by cases hu))
  refine ⟨_, _, hr, by rw [List.append_nil]; exact h, ⟨rfl, rfl, rfl, Nat.le_refl _, fun _ _ _ => rfl⟩, Below.refl _ _⟩
 | cons q r =>
  obtain ⟨b, rfl, _⟩ := h5 0 q rfl
  obtain ⟨v', w', hr, hown, hgr, hnb⟩ := run_append_src (P := Tryd.prog) A base 28 28 28 58 i z 25 56 Tryd.underlying28 hi hz hsize hby hzs (by decide) v ps.length (flatKy ps) h (.slice (some b) (q :: r).length cap) (q :: r).length (by simp) (flatKy (q :: r)) (by
   rw [hsize]
   refine Src.ofSlice _ Tryd.underlying28 b _ cap _ (flatKy_length _) (fun j u hj => ?_) (fun u hu => ?_)
   ·have hj8 : j < (q :: r).length * 25 := by
     have := (List.getElem?_eq_some_iff.1 hj).1
     rwa [flatKy_length] at this
    obtain ⟨y, hy⟩ : ∃ y, (q :: r)[j / 25]? = some y := ⟨_, List.getElem?_eq_getElem (by omega)⟩
    obtain ⟨b', hb', hc⟩ := h5 (j / 25) y hy
    injection hb' with hb'
    subst hb'
    have hf := flatKy_at (q :: r) (j / 25) y (j % 25) hy (by omega)
    rw [show j / 25 * 25 + j % 25 = j by omega, hj] at hf
    have h8 := hc (j % 25) u hf.symm
    rwa [Addr.add_add, show j / 25 * 25 + j % 25 = j by omega] at h8
   ·obtain ⟨y, hy, hu'⟩ := List.mem_flatMap.1 hu
    exact kyL_one y u hu') (by omega) (by unfold maxLen; omega) hb
  refine ⟨v', w', hr, ?_, hgr, bel w' hgr⟩
  unfold KRow
  rw [flatKy_append, List.length_append]
  exact hown
theorem results_setsB {fn : Func} {t u : Tmp} {tmps : Array Value} {W : World} {B : Nat} {x y : Value} (h : fn.results = #[ResultVar.cell t 30, ResultVar.tmp u]) (ht : tmps.getD t undef = .pointer (some ⟨B, 0, none⟩)) (hA : Has W B 30 #[x, y]) :
  (results fn tmps).run Tryd.prog W = .ok (.tuple #[.agg #[x, y], tmps.getD u undef]) W := by
 have e0 := hA.cell 0 _ rfl
 have e1 := hA.cell 1 _ rfl
 simp at ht
 simp [results, h, ht, go_sem, e0, e1]
theorem results_sets {fn : Func} {t : Tmp} {tmps : Array Value} {W : World} {B : Nat} {x y : Value} (h : fn.results = #[ResultVar.cell t 30]) (ht : tmps.getD t undef = .pointer (some ⟨B, 0, none⟩)) (hA : Has W B 30 #[x, y]) :
  (results fn tmps).run Tryd.prog W = .ok (.agg #[x, y]) W := by
 have e0 := hA.cell 0 _ rfl
 have e1 := hA.cell 1 _ rfl
 simp at ht
 simp [results, h, ht, go_sem, e0, e1]
theorem KeysAt.away {W : World} {v : Value} {l : List Ky} (h : KeysAt W v l) {B : Nat} {t : TypeId} {a b : Option Addr} {n c m d : Nat} (hB : Has W B t #[.slice a n c, .slice b m d]) (k : Nat) (u : Value) : KeysAt (W.setCell ⟨B, k, none⟩ u) v l := by
 obtain ⟨a', cap, h1, h2, h3, h4, h5⟩ := h
 refine ⟨a', cap, h1, h2, h3, h4, fun i x hx => ?_⟩
 obtain ⟨p, e, hc⟩ := h5 i x hx
 refine ⟨p, e, fun j y hj => ?_⟩
 have h6 := hc j y hj
 generalize (p.add (i * 25)).add j = q at *
 by_cases hq : q.block = B
 ·exfalso
  have hy := List.mem_of_getElem? hj
  have hcl : W.heap[B]? = some (.cells #[.slice a n c, .slice b m d] t (0, 0)) := hB
  unfold World.cell? at h6
  rw [hq, hcl] at h6
  have hm : y = .slice a n c ∨ y = .slice b m d := by
   have h7 : q.spot = none ∧ [Value.slice a n c, .slice b m d][q.off]? = some y := by simpa using h6
   have := List.mem_of_getElem? h7.2
   simpa using this
  unfold kyL adL at hy
  rcases List.mem_append.1 hy with hy | hy
  ·obtain ⟨i, _, rfl⟩ := List.mem_map.1 hy
   rcases hm with hm | hm <;> cases hm
  ·simp only [List.mem_cons, List.not_mem_nil, or_false] at hy
   rcases hy with rfl | rfl | rfl | rfl | rfl <;> rcases hm with hm | hm <;> cases hm
 ·exact (World.cell?_of_block (Below.heap_setCell W ⟨B, k, none⟩ u q.block hq)).trans h6
structure SetsP (W : World) (r s : List Ky) (c : Nat) (e : Ending) (w' : World) : Prop where
 ex : ∃ x y, e = .returned (.tuple #[.agg #[x, y], .int .i64 (c : Int)]) ∧ KeysAt w' x r ∧ KeysAt w' y s ∧ Below W.heap.size W w'

end
section
open Go Go.RowKit Go.Shelf
attribute [local go_sem] Oper.semAt_some Grows wide_fn

end
section
open Go Go.RowKit
attribute [local go_sem] Oper.semAt_some Grows wide_fn

theorem fill_k1 (x : Ky) (cells : Array Value) (h : cells.size = 25) : Instr.fill (fun i => some (i * 25, 25)) cells [(0, .agg (kyC x))] = some (flatKy [x]).toArray := by
 have := Great.fill_whole (s := 25) (by decide) [.agg (kyC x)] cells (fun v hv => by
  simp at hv
  subst hv
  exact kyC_size x) (by simp [h])
 simpa [Value.cells, flatKy, kyC] using this
section
variable {ops : Array Oper} {rest : List Oper} {o : Oper} {a : Act} {w : World} {Q : Exit → Act → World → Prop}
theorem wpList_build_k1 (hg : o.guard = none) (y : Operand) (ho : o.op = .buildSlice 28 1 #[(0, y)]) (x : Ky) (hy : a.eval y = .agg (kyC x))
  (h : wpList Tryd.prog ops Q rest (a.put o.dst (.slice (some ⟨w.heap.size, 0, none⟩) 1 1)) (w.alloc (.cells (flatKy [x]).toArray 58))) : wpList Tryd.prog ops Q (o :: rest) a w := by
 obtain ⟨i, z, hi, hz, hzs, hsz, hby⟩ := infoKz_of
 refine wpList_buildSlice hg 28 58 1 #[(0, y)] ho (flatKy [x]).toArray i z Tryd.underlying28 hi hz (by rw [hsz]; decide) (by rw [hsz]; decide) ?_ h
 rw [hsz]
 simp only [List.map_toArray, List.map_cons, List.map_nil, hy]
 exact fill_k1 x _ (by simp)
end
theorem keys_made (w : World) (l : List Ky) (h : ∀ x ∈ l, KyOk x) (hl : l.length ≤ 100000) : KeysAt (w.alloc (.cells (flatKy l).toArray 58)) (.slice (some ⟨w.heap.size, 0, none⟩) l.length l.length) l := by
 refine ⟨some ⟨w.heap.size, 0, none⟩, l.length, rfl, Nat.le_refl _, by omega, h, fun i x hx => ⟨_, rfl, fun j u hj => ?_⟩⟩
 have hj25 : j < 25 := by have := (List.getElem?_eq_some_iff.1 hj).1; rwa [kyL_len] at this
 rw [Addr.add_add, Addr.add_mid, Nat.zero_add]
 exact (Has.new w 58 (flatKy l).toArray).cell _ _ (by simpa using (flatKy_at l i x j hx hj25).trans hj)
def kl : Ky := ⟨256 ^ 19, false, 0⟩
def k1 : Ky := ⟨0, false, 1⟩

theorem built_at0 (x0 x1 x2 x3 x4 x5 x6 x7 x8 x9 x10 x11 x12 x13 x14 x15 x16 x17 x18 x19 : Value) : Tryd.prog.built 58 [(0, .agg #[x0, x1, x2, x3, x4, x5, x6, x7, x8, x9, x10, x11, x12, x13, x14, x15, x16, x17, x18, x19])] = some #[x0, x1, x2, x3, x4, x5, x6, x7, x8, x9, x10, x11, x12, x13, x14, x15, x16, x17, x18, x19, .bool false, .int .u64 0, .int .u64 0, .int .u64 0, .int .u64 0] := by kernel_rfl
theorem built_at (n : Nat) : Tryd.prog.built 58 [(0, .agg (adC n))] = some (kyC ⟨n, false, 0⟩) := by
 have h := built_at0 (.int .u8 ((adB n 0 : Nat) : Int)) (.int .u8 ((adB n 1 : Nat) : Int)) (.int .u8 ((adB n 2 : Nat) : Int)) (.int .u8 ((adB n 3 : Nat) : Int)) (.int .u8 ((adB n 4 : Nat) : Int)) (.int .u8 ((adB n 5 : Nat) : Int)) (.int .u8 ((adB n 6 : Nat) : Int)) (.int .u8 ((adB n 7 : Nat) : Int)) (.int .u8 ((adB n 8 : Nat) : Int)) (.int .u8 ((adB n 9 : Nat) : Int)) (.int .u8 ((adB n 10 : Nat) : Int)) (.int .u8 ((adB n 11 : Nat) : Int)) (.int .u8 ((adB n 12 : Nat) : Int)) (.int .u8 ((adB n 13 : Nat) : Int)) (.int .u8 ((adB n 14 : Nat) : Int)) (.int .u8 ((adB n 15 : Nat) : Int)) (.int .u8 ((adB n 16 : Nat) : Int)) (.int .u8 ((adB n 17 : Nat) : Int)) (.int .u8 ((adB n 18 : Nat) : Int)) (.int .u8 ((adB n 19 : Nat) : Int))
 have e1 : adC n = #[.int .u8 ((adB n 0 : Nat) : Int), .int .u8 ((adB n 1 : Nat) : Int), .int .u8 ((adB n 2 : Nat) : Int), .int .u8 ((adB n 3 : Nat) : Int), .int .u8 ((adB n 4 : Nat) : Int), .int .u8 ((adB n 5 : Nat) : Int), .int .u8 ((adB n 6 : Nat) : Int), .int .u8 ((adB n 7 : Nat) : Int), .int .u8 ((adB n 8 : Nat) : Int), .int .u8 ((adB n 9 : Nat) : Int), .int .u8 ((adB n 10 : Nat) : Int), .int .u8 ((adB n 11 : Nat) : Int), .int .u8 ((adB n 12 : Nat) : Int), .int .u8 ((adB n 13 : Nat) : Int), .int .u8 ((adB n 14 : Nat) : Int), .int .u8 ((adB n 15 : Nat) : Int), .int .u8 ((adB n 16 : Nat) : Int), .int .u8 ((adB n 17 : Nat) : Int), .int .u8 ((adB n 18 : Nat) : Int), .int .u8 ((adB n 19 : Nat) : Int)] := rfl
 have e2 : kyC ⟨n, false, 0⟩ = #[.int .u8 ((adB n 0 : Nat) : Int), .int .u8 ((adB n 1 : Nat) : Int), .int .u8 ((adB n 2 : Nat) : Int), .int .u8 ((adB n 3 : Nat) : Int), .int .u8 ((adB n 4 : Nat) : Int), .int .u8 ((adB n 5 : Nat) : Int), .int .u8 ((adB n 6 : Nat) : Int), .int .u8 ((adB n 7 : Nat) : Int), .int .u8 ((adB n 8 : Nat) : Int), .int .u8 ((adB n 9 : Nat) : Int), .int .u8 ((adB n 10 : Nat) : Int), .int .u8 ((adB n 11 : Nat) : Int), .int .u8 ((adB n 12 : Nat) : Int), .int .u8 ((adB n 13 : Nat) : Int), .int .u8 ((adB n 14 : Nat) : Int), .int .u8 ((adB n 15 : Nat) : Int), .int .u8 ((adB n 16 : Nat) : Int), .int .u8 ((adB n 17 : Nat) : Int), .int .u8 ((adB n 18 : Nat) : Int), .int .u8 ((adB n 19 : Nat) : Int), .bool false, .int .u64 0, .int .u64 0, .int .u64 0, .int .u64 0] := by kernel_rfl
 rw [e1, e2]
 exact h
theorem wpList_build_at {ops : Array Oper} {rest : List Oper} {o : Oper} {a : Act} {w : World} {Q : Exit → Act → World → Prop} (hw : Region.wanted o (yielded ops a.tmps) = true) (y : Operand) (ho : o.op = .build 58 #[(0, y)]) (ad cs : Array Value) (hb : Tryd.prog.built 58 [(0, .agg ad)] = some cs) (hy : a.eval y = .agg ad)
  (h : wpList Tryd.prog ops Q rest (a.put o.dst (.agg cs)) w) : wpList Tryd.prog ops Q (o :: rest) a w := by
 refine wpList_step fun K hK => ?_
 rw [if_pos hw]
 have e : Tryd.prog.built 58 (#[((0 : Nat), y)].map fun (i, x) => (i, a.eval x)).toList = some cs := by
  simp only [List.map_toArray, List.map_cons, List.map_nil, hy]
  exact hb
 refine wp_build 58 #[(0, y)] ho (by rw [e]; rfl) (hK _ _ ?_)
 rw [e]
 exact h
end
end Go.Proofs.YtlihnlkcgiopoaaDoor
