/- Sums, differences and the order of words. For every word. -/
import Derived.Test.YtnlcllhjhbaigaaJoin
import Derived.Test.YtnlcllhjhbaigaaMath
import Derived.Shelf.Spec.BitsCarry
import Derived.Shelf.Bits.Mul64
namespace Go.Proofs.Ytnlcllhjhbaigaa
open Go Go.RowKit Go.Shelf
attribute [local go_sem] Oper.semAt_some Grows wide_fn

/-- A word, by its number. -/
def wv (n : Nat) : Value := .agg #[.int .u64 (lim n 0), .int .u64 (lim n 1), .int .u64 (lim n 2), .int .u64 (lim n 3)]
theorem wv_of {n : Nat} {x0 x1 x2 x3 : Int} (h : lim n 0 = x0 ∧ lim n 1 = x1 ∧ lim n 2 = x2 ∧ lim n 3 = x3) : wv n = .agg #[.int .u64 x0, .int .u64 x1, .int .u64 x2, .int .u64 x3] := by
  obtain ⟨rfl, rfl, rfl, rfl⟩ := h; rfl

theorem run_addc (x y c : Int) (hx : U64 x) (hy : U64 y) (hc : Bit c) (w : World) : (callFunc 60 #[.int .u64 x, .int .u64 y, .int .u64 c]).run Try.prog w =
    .ok (.value (.tuple #[.int .u64 ((x + y + c) % 18446744073709551616), .int .u64 ((x + y + c) / 18446744073709551616)])) w := by
  obtain ⟨x, rfl⟩ := Int.eq_ofNat_of_zero_le hx.1
  obtain ⟨y, rfl⟩ := Int.eq_ofNat_of_zero_le hy.1
  obtain ⟨c, rfl⟩ := Int.eq_ofNat_of_zero_le hc.1
  have h1 := hx.2; have h2 := hy.2; have h3 := hc.2
  rw [run_callFunc_extern Try.func60 (by kernel_rfl) (by kernel_rfl) (by kernel_rfl) (e := add64Entry) (by kernel_rfl), run_add64 x y c (by omega) (by omega) (by omega) (by omega)]
  rfl
theorem run_subc (x y b : Int) (hx : U64 x) (hy : U64 y) (hb : Bit b) (w : World) : (callFunc 61 #[.int .u64 x, .int .u64 y, .int .u64 b]).run Try.prog w =
    .ok (.value (.tuple #[.int .u64 ((x - y - b) % 18446744073709551616), .int .u64 (if x < y + b then 1 else 0)])) w := by
  obtain ⟨x, rfl⟩ := Int.eq_ofNat_of_zero_le hx.1
  obtain ⟨y, rfl⟩ := Int.eq_ofNat_of_zero_le hy.1
  obtain ⟨b, rfl⟩ := Int.eq_ofNat_of_zero_le hb.1
  have h1 := hx.2; have h2 := hy.2; have h3 := hb.2
  have e1 : (((x + 18446744073709551616 - y - b) % 18446744073709551616 : Nat) : Int) = ((x : Int) - y - b) % 18446744073709551616 := by omega
  have e2 : ((if x < y + b then 1 else 0 : Nat) : Int) = if (x : Int) < y + b then 1 else 0 := by split <;> split <;> omega
  rw [← e1, ← e2]
  rw [run_callFunc_extern Try.func61 (by kernel_rfl) (by kernel_rfl) (by kernel_rfl) (e := sub64Entry) (by kernel_rfl), run_sub64 x y b (by omega)]
  rfl

/-- What was there before reads as it did. -/
theorem bcell {W w1 : World} (hb : Below W.heap.size W w1) : (∀ b o, b < W.heap.size → w1.cell? ⟨b, o, none⟩ = W.cell? ⟨b, o, none⟩) ∧ (∀ b o, b < W.heap.size → w1.frozen? ⟨b, o, none⟩ = W.frozen? ⟨b, o, none⟩) :=
  ⟨fun b o h => hb.cell (p := ⟨b, o, none⟩) h, fun b o h => hb.frozen (p := ⟨b, o, none⟩) h⟩

/-- A new block that holds a word. -/
theorem Arr4.word (W : World) (t : TypeId) (n : Nat) : Arr4 (W.alloc (.cells #[.int .u64 (lim n 0), .int .u64 (lim n 1), .int .u64 (lim n 2), .int .u64 (lim n 3)] t)) W.heap.size t (lim n) := World.alloc_heap_new W _

theorem Arr4.store {W : World} {B : Nat} {t : TypeId} {m : Nat → Int} (h : Arr4 W B t m) (m' : Nat → Int) :
    Arr4 ((((W.setCell ⟨B, 0, none⟩ (.int .u64 (m' 0))).setCell ⟨B, 1, none⟩ (.int .u64 (m' 1))).setCell ⟨B, 2, none⟩ (.int .u64 (m' 2))).setCell ⟨B, 3, none⟩ (.int .u64 (m' 3))) B t m' := by
  have h := Arr4.set (Arr4.set (Arr4.set (Arr4.set h (k := 0) (by omega) (m' 0)) (k := 1) (by omega) (m' 1)) (k := 2) (by omega) (m' 2)) (k := 3) (by omega) (m' 3)
  exact h

/-- A word handed back out of its variable. -/
theorem results_word {fn : Func} {t : Tmp} {tmps : Array Value} {W : World} {B : Nat} {m : Nat → Int} (h : fn.results = #[ResultVar.cell t 24]) (ht : tmps.getD t undef = .pointer (some ⟨B, 0, none⟩)) (hA : Arr4 W B 24 m) :
    (results fn tmps).run Try.prog W = .ok (.agg #[.int .u64 (m 0), .int .u64 (m 1), .int .u64 (m 2), .int .u64 (m 3)]) W := by
  have e0 := hA.cell (j := 0) (by omega)
  have e1 := hA.cell (j := 1) (by omega)
  have e2 := hA.cell (j := 2) (by omega)
  have e3 := hA.cell (j := 3) (by omega)
  simp at ht
  simp [results, h, ht, go_sem, e0, e1, e2, e3]

set_option maxRecDepth 100000 in
set_option maxHeartbeats 1000000 in
theorem sub_ret (a b : Nat) (ha : W256 a) (hb : W256 b) : Ret Try.prog 45 #[wv a, wv b] (wv (wsub a b)) := by
  intro w
  have hJ := fun W => join_u64 61 (lim a) (lim b) (subO a b) (subN a b) 0 Bit bit_zero (fun k _ l _ => subN_bit a b k l)
    (fun k _ l h W => run_subc _ _ _ (lim_u64 a k) (lim_u64 b k) h W) W
  have hP := sub_parts a b ha hb (madeOf (subO a b) (subN a b) 0 [0, 1, 2, 3] (fun _ => 0)) _ _ _ rfl rfl rfl rfl rfl rfl rfl
  rw [wv_of hP]
  have HJ := Lib.hid hJ
  clear hJ hP
  unfold wv
  go_enter Try.func45, Try.ntmps45
  go_wp2_with fail
  have A1 := ((Arr4.word w 24 a).alloc (.cells #[.int .u64 (lim b 0), .int .u64 (lim b 1), .int .u64 (lim b 2), .int .u64 (lim b 3)] 24)).alloc (.cells #[.int .u64 0, .int .u64 0, .int .u64 0, .int .u64 0] 24)
  have A2 := (Arr4.word (w.alloc (.cells #[.int .u64 (lim a 0), .int .u64 (lim a 1), .int .u64 (lim a 2), .int .u64 (lim a 3)] 24)) 24 b).alloc (.cells #[.int .u64 0, .int .u64 0, .int .u64 0, .int .u64 0] 24)
  have A3 := World.alloc_heap_new ((w.alloc (.cells #[.int .u64 (lim a 0), .int .u64 (lim a 1), .int .u64 (lim a 2), .int .u64 (lim a 3)] 24)).alloc (.cells #[.int .u64 (lim b 0), .int .u64 (lim b 1), .int .u64 (lim b 2), .int .u64 (lim b 3)] 24)) (.cells #[.int .u64 0, .int .u64 0, .int .u64 0, .int .u64 0] 24)
  have B0 := (((Below.refl _ w).alloc (Nat.le_refl _) (.cells #[.int .u64 (lim a 0), .int .u64 (lim a 1), .int .u64 (lim a 2), .int .u64 (lim a 3)] 24)).alloc (by simp) (.cells #[.int .u64 (lim b 0), .int .u64 (lim b 1), .int .u64 (lim b 2), .int .u64 (lim b 3)] 24)).alloc (by simp; omega) (.cells #[.int .u64 0, .int .u64 0, .int .u64 0, .int .u64 0] 24)
  rw [World.size_alloc] at A2 A3
  rw [World.size_alloc] at A3
  refine (HJ.out _).mono ?_
  rintro e w1 ⟨rfl, hb1⟩
  have A4 : Arr4 w1 (w.heap.size + 1 + 1) 24 (fun _ => 0) := Arr4.below (m := fun _ => 0) A3 hb1 (by simp)
  have BB := B0.trans (hb1.mono B0.size)
  have hz : w.heap.size ≤ w1.heap.size := BB.size
  have hz2 := A4.lt
  have c0 := A4.cell (j := 0) (by omega)
  have c1 := A4.cell (j := 1) (by omega)
  have c2 := A4.cell (j := 2) (by omega)
  have c3 := A4.cell (j := 3) (by omega)
  have f0 := A4.frozen 0
  have f1 := A4.frozen 1
  have f2 := A4.frozen 2
  have f3 := A4.frozen 3
  replace A4 := Lib.hid A4
  clear A1 A2 A3 B0 hb1 HJ
  go_wp2
  refine bodyPost_ret (results_word rfl rfl ((A4.out.store _).alloc _)) rfl ⟨rfl, ?_⟩
  (repeat (first | exact BB | refine Below.setCell ?_ (by first | omega | (simp; done) | (simp; omega)) _ | refine Below.alloc ?_ (by first | omega | (simp; done) | (simp; omega)) _ | refine Below.drew ?_))

end Go.Proofs.Ytnlcllhjhbaigaa
