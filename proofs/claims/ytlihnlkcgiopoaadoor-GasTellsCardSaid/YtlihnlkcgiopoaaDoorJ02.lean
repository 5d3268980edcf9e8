/- Part. -/
import Derived.Test.YtlihnlkcgiopoaaDoorJ01
import Derived.Lib.Hide
import Derived.Shelf.Spec.BitsCarry
import Derived.Shelf.Bits.Mul64
import Derived.RangeFuncRecord
import Derived.RangeFuncNested
import Derived.RangeFuncBound
import Derived.RangeFuncCalls
import Derived.RangeFuncLeaves
import Derived.RangeFuncBox
set_option maxRecDepth 100000
set_option maxHeartbeats 16000000
namespace Go.Proofs.YtlihnlkcgiopoaaDoor
section
open Go Go.RowKit Go.Shelf
attribute [local go_sem] Oper.semAt_some Grows wide_fn
def JoinIAt (H : Nat) (zA zB : Nat → Int) (fv : Value) (m : Nat → Int) (l : Int) (W : World) : Prop :=
 Arr4 W H 24 zA ∧ Arr4 W (H + 1) 24 zB ∧ Boxed W (H + 1 + 1) 3 (.int .i64 l) ∧ Boxed W (H + 1 + 1 + 1) 112 fv ∧
  Arr4 W (H + 1 + 1 + 1 + 1) 24 (fun _ => 0) ∧ Arr4 W (H + 1 + 1 + 1 + 1 + 1) 24 m ∧ Boxed W (H + 1 + 1 + 1 + 1 + 1 + 1) 101 (.pointer (some ⟨H, 0, none⟩))
theorem JoinIAt.own {β : Type} (H : Nat) (zA zB : Nat → Int) (fv : Value) (m : β → Nat → Int) (l : β → Int) : Own (fun s W => JoinIAt H zA zB fv (m s) (l s) W) := fun s X Y row hs hg hr =>
 ⟨Arr4.own H _ (fun _ : β => zA) s X Y row hs.1 hg hr, Arr4.own (H + 1) _ (fun _ : β => zB) s X Y row hs.2.1 hg hr, boxed_own (H + 1 + 1) _ (fun s : β => Value.int .i64 (l s)) s X Y row hs.2.2.1 hg hr, boxed_own (H + 1 + 1 + 1) _ (fun _ : β => fv) s X Y row hs.2.2.2.1 hg hr,
  Arr4.own (H + 1 + 1 + 1 + 1) _ (fun _ : β => fun _ => 0) s X Y row hs.2.2.2.2.1 hg hr, Arr4.own (H + 1 + 1 + 1 + 1 + 1) _ m s X Y row hs.2.2.2.2.2.1 hg hr, boxed_own (H + 1 + 1 + 1 + 1 + 1 + 1) _ (fun _ : β => _) s X Y row hs.2.2.2.2.2.2 hg hr⟩
theorem join_int (zA zB : Nat → Int) (o nx : Nat → Int → Int) (l0 : Int) (Lb : Int → Prop) (hL0 : Lb l0) (hLn : ∀ k, k < 4 → ∀ l, Lb l → Lb (nx k l))
  (hrun : ∀ k, k < 4 → ∀ l, Lb l → Ret Tryd.prog 78 #[.int .u64 (zA k), .int .u64 (zB k), .int .i64 l] (.tuple #[.int .u64 (o k l), .int .i64 (nx k l)]))
  (w : World) :
  Calls Tryd.prog 77 #[.agg #[.int .u64 (zA 0), .int .u64 (zA 1), .int .u64 (zA 2), .int .u64 (zA 3)], .agg #[.int .u64 (zB 0), .int .u64 (zB 1), .int .u64 (zB 2), .int .u64 (zB 3)], .int .i64 l0, .func (.func 78) #[] #[]] w fun e w' =>
   e = .returned (.tuple #[.agg #[.int .u64 (madeOf o nx l0 [0, 1, 2, 3] (fun _ => 0) 0), .int .u64 (madeOf o nx l0 [0, 1, 2, 3] (fun _ => 0) 1), .int .u64 (madeOf o nx l0 [0, 1, 2, 3] (fun _ => 0) 2), .int .u64 (madeOf o nx l0 [0, 1, 2, 3] (fun _ => 0) 3)], .int .i64 (leftOf nx l0 [0, 1, 2, 3])]) ∧ Below w.heap.size w w' := by
 have h1 : 1 ≤ 3 := by omega
 refine (callsIn_wide (n := 3)).1 ?_
 refine callsIn_of_wp_marks Tryd.func77 rfl trivial ?_ rfl
 simp only [Tryd.ntmps77, List.size_toArray, List.length_cons, List.length_nil, Nat.reduceAdd, Nat.reduceSub, Array.replicate_succ, Array.replicate_zero, List.push_toArray, List.append_toArray, List.nil_append, List.cons_append]
 gi_wp2_with (gi_at_call 74; refine (callsIn_free free_wide (parts_any _ _)).mono ?_; rintro e w' ⟨rfl, rfl⟩)
 obtain ⟨W0, hW0⟩ : ∃ W0, (((((((w.alloc (.cells #[.int .u64 (zA 0), .int .u64 (zA 1), .int .u64 (zA 2), .int .u64 (zA 3)] 24)).alloc (.cells #[.int .u64 (zB 0), .int .u64 (zB 1), .int .u64 (zB 2), .int .u64 (zB 3)] 24)).alloc (.cells #[.int .i64 l0] 3)).alloc (.cells #[.func (.func 78) #[] #[]] 112)).alloc (.cells #[.int .u64 0, .int .u64 0, .int .u64 0, .int .u64 0] 24)).alloc (.cells #[.int .u64 0, .int .u64 0, .int .u64 0, .int .u64 0] 24)).alloc (.cells #[.pointer (some ⟨w.heap.size, 0, none⟩)] 101)) = W0 := ⟨_, rfl⟩
 have hB0 : Below w.heap.size w W0 := by
  rw [← hW0]; exact (((((((Below.refl _ w).alloc (by first | exact Nat.le_refl _ | (simp; done) | (simp; omega)) _).alloc (by first | exact Nat.le_refl _ | (simp; done) | (simp; omega)) _).alloc (by first | exact Nat.le_refl _ | (simp; done) | (simp; omega)) _).alloc (by first | exact Nat.le_refl _ | (simp; done) | (simp; omega)) _).alloc (by first | exact Nat.le_refl _ | (simp; done) | (simp; omega)) _).alloc (by first | exact Nat.le_refl _ | (simp; done) | (simp; omega)) _).alloc (by first | exact Nat.le_refl _ | (simp; done) | (simp; omega)) _
 have hsz : W0.heap.size = w.heap.size + 7 := by rw [← hW0]; simp
 have hJ0 : JoinIAt w.heap.size zA zB (.func (.func 78) #[] #[]) (fun _ => 0) l0 W0 := by
  rw [← hW0]
  refine ⟨?_, ?_, ?_, ?_, ?_, ?_, ?_⟩
  ·have h := World.alloc_heap_new w (.cells #[.int .u64 (zA 0), .int .u64 (zA 1), .int .u64 (zA 2), .int .u64 (zA 3)] 24)
   exact (((((((show Arr4 _ _ _ zA from h).alloc _).alloc _).alloc _).alloc _).alloc _).alloc _)
  ·have h := World.alloc_heap_new (w.alloc (.cells #[.int .u64 (zA 0), .int .u64 (zA 1), .int .u64 (zA 2), .int .u64 (zA 3)] 24)) (.cells #[.int .u64 (zB 0), .int .u64 (zB 1), .int .u64 (zB 2), .int .u64 (zB 3)] 24)
   rw [World.size_alloc] at h
   exact ((((((show Arr4 _ _ _ zB from h).alloc _).alloc _).alloc _).alloc _).alloc _)
  ·have h := Boxed.new ((w.alloc (.cells #[.int .u64 (zA 0), .int .u64 (zA 1), .int .u64 (zA 2), .int .u64 (zA 3)] 24)).alloc (.cells #[.int .u64 (zB 0), .int .u64 (zB 1), .int .u64 (zB 2), .int .u64 (zB 3)] 24)) 3 (.int .i64 l0)
   rw [World.size_alloc, World.size_alloc] at h
   exact ((((h.alloc _).alloc _).alloc _).alloc _)
  ·have h := Boxed.new (((w.alloc (.cells #[.int .u64 (zA 0), .int .u64 (zA 1), .int .u64 (zA 2), .int .u64 (zA 3)] 24)).alloc (.cells #[.int .u64 (zB 0), .int .u64 (zB 1), .int .u64 (zB 2), .int .u64 (zB 3)] 24)).alloc (.cells #[.int .i64 l0] 3)) 112 (.func (.func 78) #[] #[])
   rw [World.size_alloc, World.size_alloc, World.size_alloc] at h
   exact (((h.alloc _).alloc _).alloc _)
  ·have h := World.alloc_heap_new ((((w.alloc (.cells #[.int .u64 (zA 0), .int .u64 (zA 1), .int .u64 (zA 2), .int .u64 (zA 3)] 24)).alloc (.cells #[.int .u64 (zB 0), .int .u64 (zB 1), .int .u64 (zB 2), .int .u64 (zB 3)] 24)).alloc (.cells #[.int .i64 l0] 3)).alloc (.cells #[.func (.func 78) #[] #[]] 112)) (.cells #[.int .u64 0, .int .u64 0, .int .u64 0, .int .u64 0] 24)
   rw [World.size_alloc, World.size_alloc, World.size_alloc, World.size_alloc] at h
   exact (((show Arr4 _ _ _ (fun _ => 0) from h).alloc _).alloc _)
  ·have h := World.alloc_heap_new (((((w.alloc (.cells #[.int .u64 (zA 0), .int .u64 (zA 1), .int .u64 (zA 2), .int .u64 (zA 3)] 24)).alloc (.cells #[.int .u64 (zB 0), .int .u64 (zB 1), .int .u64 (zB 2), .int .u64 (zB 3)] 24)).alloc (.cells #[.int .i64 l0] 3)).alloc (.cells #[.func (.func 78) #[] #[]] 112)).alloc (.cells #[.int .u64 0, .int .u64 0, .int .u64 0, .int .u64 0] 24)) (.cells #[.int .u64 0, .int .u64 0, .int .u64 0, .int .u64 0] 24)
   rw [World.size_alloc, World.size_alloc, World.size_alloc, World.size_alloc, World.size_alloc] at h
   exact ((show Arr4 _ _ _ (fun _ => 0) from h).alloc _)
  ·have h := Boxed.new ((((((w.alloc (.cells #[.int .u64 (zA 0), .int .u64 (zA 1), .int .u64 (zA 2), .int .u64 (zA 3)] 24)).alloc (.cells #[.int .u64 (zB 0), .int .u64 (zB 1), .int .u64 (zB 2), .int .u64 (zB 3)] 24)).alloc (.cells #[.int .i64 l0] 3)).alloc (.cells #[.func (.func 78) #[] #[]] 112)).alloc (.cells #[.int .u64 0, .int .u64 0, .int .u64 0, .int .u64 0] 24)).alloc (.cells #[.int .u64 0, .int .u64 0, .int .u64 0, .int .u64 0] 24)) 101 (.pointer (some ⟨w.heap.size, 0, none⟩))
   rw [World.size_alloc, World.size_alloc, World.size_alloc, World.size_alloc, World.size_alloc, World.size_alloc] at h
   exact h
 rw [hW0]
 clear hW0
 have hcP := Boxed.cell hJ0.2.2.2.2.2.2
 have hA' : ∀ j, j < 4 → W0.cell? ⟨w.heap.size, j, none⟩ = some (.int .u64 (zA j)) := fun j hj => hJ0.1.cell hj
 refine wpIn_rangeFunc_ownG rfl h1 (gf := 87) (lb := #[.pointer (some ⟨w.heap.size + 1 + 1 + 1 + 1 + 1 + 1, 0, none⟩)]) rfl trivial (enters_of Tryd.func87 (by kernel_rfl) rfl)
  (parts_stops Fence.wide _ trivial rfl (by omega) _ (w.heap.size) zA W0 (by omega) (by omega) hcP hA') KeepsAt.trans (KeepsAt.b (by simp; omega)) (Below.refl _ _) (fun _ => rfl)
  (fun pre W => (JoinIAt w.heap.size zA zB (.func (.func 78) #[] #[]) (madeOf o nx l0 pre (fun _ => 0)) (leftOf nx l0 pre) W ∧ Lb (leftOf nx l0 pre)) ∧ Below w.heap.size w W)
  (fun _ _ _ => False)
  ?hI
  (fun _ _ _ _ _ hs _ _ => hs)
  ⟨⟨hJ0, hL0⟩, hB0⟩
  (fun x => { tmps := #[.agg #[.int .u64 (zA 0), .int .u64 (zA 1), .int .u64 (zA 2), .int .u64 (zA 3)], .agg #[.int .u64 (zB 0), .int .u64 (zB 1), .int .u64 (zB 2), .int .u64 (zB 3)], .int .i64 l0, .func (.func 78) #[] #[], .pointer (some ⟨w.heap.size, 0, none⟩), .pointer (some ⟨w.heap.size + 1, 0, none⟩), .pointer (some ⟨w.heap.size + 1 + 1, 0, none⟩), .pointer (some ⟨w.heap.size + 1 + 1 + 1, 0, none⟩), .pointer (some ⟨w.heap.size + 1 + 1 + 1 + 1, 0, none⟩), .int .i64 0, .pointer (some ⟨w.heap.size + 1 + 1 + 1 + 1 + 1, 0, none⟩), .int .i64 (x.val : Int), .int .u64 (zA x.val), .agg #[.int .u64 0, .int .u64 0, .int .u64 0, .int .u64 0], .func (.func 87) #[] #[.pointer (some ⟨w.heap.size + 1 + 1 + 1 + 1 + 1 + 1, 0, none⟩)], .int .i64 (x.val : Int), .int .u64 (zA x.val), undef, undef, undef, undef, undef, undef, undef, undef, undef, undef, undef, undef, undef, undef], defers := [] }) ?assign ?body ?done ?stop
 case hI => exact OwnFrom.and (OwnFrom.and (Own.from (JoinIAt.own _ _ _ _ _ _) _) (ownFrom_pure _ _)) (ownFrom_below (Nat.le_refl _) (by omega))
 case assign =>
  intro l x W K hK
  gi_wp2
  exact hK
 case body =>
  rintro l pre ⟨k, hk⟩ W ⟨⟨⟨bA, bB, b6, b7, b8, b10, bP⟩, hl⟩, hBw⟩ _
  have hmx : Tryd.prog.follows .mixedOrders = true := by kernel_rfl
  have c6 := b6.cell
  have c7 := b7.cell
  have cB := bB.cell hk
  have f6 := b6.frozen
  have f10 := b10.frozen k
  have c10 := b10.cell hk
  have hk0 : (0 : Int) ≤ (k : Int) := by omega
  have hk4 : (k : Int) < 4 := by omega
  have hr := hrun k hk _ hl
  clear hrun hA' hcP
  have hM := Lib.hid (madeOf_snoc o nx ⟨k, hk⟩ pre l0 (fun _ => 0))
  have hL := Lib.hid (leftOf_snoc nx l0 pre ⟨k, hk⟩)
  have hLb := hLn k hk _ hl
  generalize leftOf nx l0 pre = lx at *
  generalize madeOf o nx l0 pre (fun _ => 0) = mx at *
  have e6 : ∀ x : Ext W, x.w.cell? ⟨w.heap.size + 1 + 1, 0, none⟩ = some (.int .i64 lx) := fun x => (x.cell b6.lt).trans c6
  have e7 : ∀ x : Ext W, x.w.cell? ⟨w.heap.size + 1 + 1 + 1, 0, none⟩ = some (.func (.func 78) #[] #[]) := fun x => (x.cell b7.lt).trans c7
  have eB : ∀ x : Ext W, x.w.cell? ⟨w.heap.size + 1, k, none⟩ = some (.int .u64 (zB k)) := fun x => (x.cell (p := ⟨_, k, none⟩) bB.lt).trans cB
  have e10 : ∀ x : Ext W, x.w.cell? ⟨w.heap.size + 1 + 1 + 1 + 1 + 1, k, none⟩ = some (.int .u64 (mx k)) := fun x => (x.cell (p := ⟨_, k, none⟩) b10.lt).trans c10
  have g6 : ∀ x : Ext W, x.w.frozen? ⟨w.heap.size + 1 + 1, 0, none⟩ = false := fun x => (x.frozen b6.lt).trans f6
  have g10 : ∀ x : Ext W, x.w.frozen? ⟨w.heap.size + 1 + 1 + 1 + 1 + 1, k, none⟩ = false := fun x => (x.frozen (p := ⟨_, k, none⟩) b10.lt).trans f10
  clear c6 c7 cB c10 f6 f10
  gi_wp2
  refine wpIn_region_mix (C := Grows W) (free_round l) [some true, some true, some true, some true, some true, some true, some true, some true, some true, some true, some false, some true, none, none] hmx (by kernel_rfl) (by kernel_rfl) (grows_refl W) ?_
  simp only [headOf, tailOf]
  repeat (go_big_quiet_step (exact Ret.at hr _))
  refine wpQuiet_nil ?_
  rintro _ ⟨x, rfl⟩
  go_wp2
  rw [calmPost_normal]
  refine ⟨((x.keeps _).trans ((KeepsOthers.setCell _ _ _).from _)).trans ((KeepsOthers.setCell _ _ _).from _), ?_, ⟨⟨?_, by rw [hL.out]; exact hLb⟩, ?_⟩⟩
  ·exact (((KeepsAt.refl _ _).below x.below (fun b hb => by simp at hb; have := hBw.size; have := b10.lt; have := bP.lt; omega)).setCell (by simp; omega) _).setCell (by simp; omega) _
  ·rw [hM.out, hL.out]
   have F1 : ∀ {a b : Nat}, a ≠ b → a ≠ b := fun h => h
   exact ⟨Arr4.other (Arr4.other (Arr4.below bA x.below (Arr4.lt bA)) (by first | (simp; done) | (simp; omega)) _) (by first | (simp; done) | (simp; omega)) _, Arr4.other (Arr4.other (Arr4.below bB x.below (Arr4.lt bB)) (by first | (simp; done) | (simp; omega)) _) (by first | (simp; done) | (simp; omega)) _, Boxed.set _ (Boxed.away (Boxed.below b6 x.below (Boxed.lt b6)) (by first | (simp; done) | (simp; omega)) _), Boxed.away (Boxed.away (Boxed.below b7 x.below (Boxed.lt b7)) (by first | (simp; done) | (simp; omega)) _) (by first | (simp; done) | (simp; omega)) _,
    Arr4.other (Arr4.other (Arr4.below b8 x.below (Arr4.lt b8)) (by first | (simp; done) | (simp; omega)) _) (by first | (simp; done) | (simp; omega)) _, Arr4.other (Arr4.set (Arr4.below b10 x.below (Arr4.lt b10)) hk _) (by first | (simp; done) | (simp; omega)) _, Boxed.away (Boxed.away (Boxed.below bP x.below (Boxed.lt bP)) (by first | (simp; done) | (simp; omega)) _) (by first | (simp; done) | (simp; omega)) _⟩
  ·exact ((hBw.trans (x.below.mono hBw.size)).setCell (p := ⟨_, k, none⟩) (by simp; omega) _).setCell (p := ⟨_, 0, none⟩) (by simp; omega) _
 case done =>
  rintro D ys W hD rfl ⟨⟨⟨bA, bB, b6, b7, b8, b10, bP⟩, hl⟩, hBw⟩ hK
  gi_wp2
  have hmx : Tryd.prog.follows .mixedOrders = true := by kernel_rfl
  have c6 := b6.cell
  have c0 := b10.cell (j := 0) (by omega)
  have c1 := b10.cell (j := 1) (by omega)
  have c2 := b10.cell (j := 2) (by omega)
  have c3 := b10.cell (j := 3) (by omega)
  have d0 := b8.cell (j := 0) (by omega)
  have d1 := b8.cell (j := 1) (by omega)
  have d2 := b8.cell (j := 2) (by omega)
  have d3 := b8.cell (j := 3) (by omega)
  have f0 := b8.frozen 0
  have f1 := b8.frozen 1
  have f2 := b8.frozen 2
  have f3 := b8.frozen 3
  clear hrun hA' hcP hJ0 hB0 hL0 hLn hl bA bB
  have b8' : Arr4 ((((W.setCell ⟨w.heap.size + 1 + 1 + 1 + 1, 0, none⟩ (.int .u64 (madeOf o nx l0 [0, 1, 2, 3] (fun _ => 0) 0))).setCell ⟨w.heap.size + 1 + 1 + 1 + 1, 1, none⟩ (.int .u64 (madeOf o nx l0 [0, 1, 2, 3] (fun _ => 0) 1))).setCell ⟨w.heap.size + 1 + 1 + 1 + 1, 2, none⟩ (.int .u64 (madeOf o nx l0 [0, 1, 2, 3] (fun _ => 0) 2))).setCell ⟨w.heap.size + 1 + 1 + 1 + 1, 3, none⟩ (.int .u64 (madeOf o nx l0 [0, 1, 2, 3] (fun _ => 0) 3))) (w.heap.size + 1 + 1 + 1 + 1) 24 (madeOf o nx l0 [0, 1, 2, 3] (fun _ => 0)) := by
   have h := Arr4.set (Arr4.set (Arr4.set (Arr4.set b8 (k := 0) (by omega) (madeOf o nx l0 [0, 1, 2, 3] (fun _ => 0) 0)) (k := 1) (by omega) (madeOf o nx l0 [0, 1, 2, 3] (fun _ => 0) 1)) (k := 2) (by omega) (madeOf o nx l0 [0, 1, 2, 3] (fun _ => 0) 2)) (k := 3) (by omega) (madeOf o nx l0 [0, 1, 2, 3] (fun _ => 0) 3)
   exact h
  have HB8 := Lib.hid b8'
  clear b8'
  gi_region_o
  all_goals gi_wp2
  all_goals
   have hK' := (((((KeepsOthers.setCell W ⟨w.heap.size + 1 + 1 + 1 + 1, 0, none⟩ (.int .u64 (madeOf o nx l0 [0, 1, 2, 3] (fun _ => 0) 0))).trans (KeepsOthers.setCell _ ⟨w.heap.size + 1 + 1 + 1 + 1, 1, none⟩ (.int .u64 (madeOf o nx l0 [0, 1, 2, 3] (fun _ => 0) 1)))).trans (KeepsOthers.setCell _ ⟨w.heap.size + 1 + 1 + 1 + 1, 2, none⟩ (.int .u64 (madeOf o nx l0 [0, 1, 2, 3] (fun _ => 0) 2)))).trans (KeepsOthers.setCell _ ⟨w.heap.size + 1 + 1 + 1 + 1, 3, none⟩ (.int .u64 (madeOf o nx l0 [0, 1, 2, 3] (fun _ => 0) 3)))).trans (KeepsOthers.drew _)).same D _ hK rfl
   have b8 := HB8.out
   have hBf := ((((hBw.setCell (p := ⟨w.heap.size + 1 + 1 + 1 + 1, 0, none⟩) (by simp; omega) (.int .u64 (madeOf o nx l0 [0, 1, 2, 3] (fun _ => 0) 0))).setCell (p := ⟨w.heap.size + 1 + 1 + 1 + 1, 1, none⟩) (by simp; omega) (.int .u64 (madeOf o nx l0 [0, 1, 2, 3] (fun _ => 0) 1))).setCell (p := ⟨w.heap.size + 1 + 1 + 1 + 1, 2, none⟩) (by simp; omega) (.int .u64 (madeOf o nx l0 [0, 1, 2, 3] (fun _ => 0) 2))).setCell (p := ⟨w.heap.size + 1 + 1 + 1 + 1, 3, none⟩) (by simp; omega) (.int .u64 (madeOf o nx l0 [0, 1, 2, 3] (fun _ => 0) 3))).drew
   refine ⟨by simp, .inl ⟨_, _, rfl, run_takeDeferred hK', ?_⟩⟩
   have b9 := Arr4.kept (Arr4.drew b8) (grownBy_putObj' _ D (.deferred none)) (fun e => by cases e; have := (show _ = _ from Arr4.drew b8).symm.trans hK'; cases this)
   have e0 := b9.cell (j := 0) (by omega)
   have e1 := b9.cell (j := 1) (by omega)
   have e2 := b9.cell (j := 2) (by omega)
   have e3 := b9.cell (j := 3) (by omega)
   exact ⟨_, by simp [results, Tryd.f77, go_sem, e0, e1, e2, e3], rfl, hBf.trans (belowK_b (w := w) (Nat.le_refl _) _ D _ _ (by omega) hK' rfl rfl)⟩
 case stop =>
  rintro D c pre W _ _ h _
  exact h.elim
end
section
def lim (n : Nat) : Nat → Int
 | 0 => ((n % 18446744073709551616 : Nat) : Int)
 | 1 => ((n / 18446744073709551616 % 18446744073709551616 : Nat) : Int)
 | 2 => ((n / 340282366920938463463374607431768211456 % 18446744073709551616 : Nat) : Int)
 | _ => ((n / 6277101735386680763835789423207666416102355444464034512896 % 18446744073709551616 : Nat) : Int)
def U64 (x : Int) : Prop := 0 ≤ x ∧ x < 18446744073709551616
def W256 (n : Nat) : Prop := n < 115792089237316195423570985008687907853269984665640564039457584007913129639936
def num (z : Nat → Int) : Int := z 0 + z 1 * 18446744073709551616 + z 2 * 340282366920938463463374607431768211456 + z 3 * 6277101735386680763835789423207666416102355444464034512896
theorem lim_u64 (n k : Nat) : U64 (lim n k) := by
 unfold U64 lim
 split <;> constructor <;> omega
theorem lim_lo (n k : Nat) : 0 ≤ lim n k := (lim_u64 n k).1
theorem lim_hi (n k : Nat) : lim n k < 18446744073709551616 := (lim_u64 n k).2
theorem lim_zero (k : Nat) : lim 0 k = 0 := by unfold lim; split <;> rfl
theorem num_lim (n : Nat) (h : W256 n) : num (lim n) = n := by
 unfold W256 at h
 have e1 : n / 340282366920938463463374607431768211456 = n / 18446744073709551616 / 18446744073709551616 := by rw [Nat.div_div_eq_div_mul]
 have e2 : n / 6277101735386680763835789423207666416102355444464034512896 = n / 18446744073709551616 / 18446744073709551616 / 18446744073709551616 := by rw [Nat.div_div_eq_div_mul, Nat.div_div_eq_div_mul]
 unfold num lim
 rw [e1, e2]
 have h4 : n / 18446744073709551616 / 18446744073709551616 / 18446744073709551616 < 18446744073709551616 := by rw [← e2]; exact Nat.div_lt_of_lt_mul h
 generalize h1 : n / 18446744073709551616 = q1 at *
 generalize h2 : q1 / 18446744073709551616 = q2 at *
 generalize h3 : q2 / 18446744073709551616 = q3 at *
 have k0 : n % 18446744073709551616 + 18446744073709551616 * q1 = n := by rw [← h1]; exact Nat.mod_add_div n _
 have k1 : q1 % 18446744073709551616 + 18446744073709551616 * q2 = q1 := by rw [← h2]; exact Nat.mod_add_div q1 _
 have k2 : q2 % 18446744073709551616 + 18446744073709551616 * q3 = q2 := by rw [← h3]; exact Nat.mod_add_div q2 _
 have k3 : q3 % 18446744073709551616 = q3 := Nat.mod_eq_of_lt h4
 rw [k3]
 generalize n % 18446744073709551616 = r0 at *
 generalize q1 % 18446744073709551616 = r1 at *
 generalize q2 % 18446744073709551616 = r2 at *
 clear h e1 e2 h1 h2 h3 h4 k3
 show (r0 : Int) + (r1 : Int) * 18446744073709551616 + (r2 : Int) * 340282366920938463463374607431768211456 + (q3 : Int) * 6277101735386680763835789423207666416102355444464034512896 = n
 omega
theorem modOf (r q n : Nat) (hr : r < 18446744073709551616) (h : r + 18446744073709551616 * q = n) : n % 18446744073709551616 = r ∧ n / 18446744073709551616 = q := by
 subst h
 exact ⟨by rw [Nat.add_mul_mod_self_left]; exact Nat.mod_eq_of_lt hr, by rw [Nat.add_mul_div_left _ _ (by decide), Nat.div_eq_of_lt hr, Nat.zero_add]⟩
theorem lim_num (z : Nat → Int) (n : Nat) (h0 : U64 (z 0)) (h1 : U64 (z 1)) (h2 : U64 (z 2)) (h3 : U64 (z 3)) (h : num z = n) : lim n 0 = z 0 ∧ lim n 1 = z 1 ∧ lim n 2 = z 2 ∧ lim n 3 = z 3 := by
 obtain ⟨z0, e0⟩ := Int.eq_ofNat_of_zero_le h0.1
 obtain ⟨z1, e1⟩ := Int.eq_ofNat_of_zero_le h1.1
 obtain ⟨z2, e2⟩ := Int.eq_ofNat_of_zero_le h2.1
 obtain ⟨z3, e3⟩ := Int.eq_ofNat_of_zero_le h3.1
 have b0 : z0 < 18446744073709551616 := by have := h0.2; rw [e0] at this; omega
 have b1 : z1 < 18446744073709551616 := by have := h1.2; rw [e1] at this; omega
 have b2 : z2 < 18446744073709551616 := by have := h2.2; rw [e2] at this; omega
 have b3 : z3 < 18446744073709551616 := by have := h3.2; rw [e3] at this; omega
 have hn : z0 + 18446744073709551616 * (z1 + 18446744073709551616 * (z2 + 18446744073709551616 * z3)) = n := by
  unfold num at h; rw [e0, e1, e2, e3] at h; omega
 obtain ⟨m0, d0⟩ := modOf _ _ _ b0 hn
 obtain ⟨m1, d1⟩ := modOf _ _ _ b1 rfl
 obtain ⟨m2, d2⟩ := modOf _ _ _ b2 rfl
 have f1 : n / 340282366920938463463374607431768211456 = n / 18446744073709551616 / 18446744073709551616 := by rw [Nat.div_div_eq_div_mul]
 have f2 : n / 6277101735386680763835789423207666416102355444464034512896 = n / 18446744073709551616 / 18446744073709551616 / 18446744073709551616 := by rw [Nat.div_div_eq_div_mul, Nat.div_div_eq_div_mul]
 simp only [lim]
 rw [f1, f2, d0, d1, d2, m0, m1, m2, Nat.mod_eq_of_lt b3, e0, e1, e2, e3]
 exact ⟨rfl, rfl, rfl, rfl⟩
theorem num_lt (z : Nat → Int) (h0 : U64 (z 0)) (h1 : U64 (z 1)) (h2 : U64 (z 2)) (h3 : U64 (z 3)) : 0 ≤ num z ∧ num z < 115792089237316195423570985008687907853269984665640564039457584007913129639936 := by
 unfold U64 at *; unfold num; constructor <;> omega
theorem lim_ext {a b : Nat} (ha : W256 a) (hb : W256 b) (h : ∀ k, k < 4 → lim a k = lim b k) : a = b := by
 have e1 := num_lim a ha
 have e2 := num_lim b hb
 have : num (lim a) = num (lim b) := by unfold num; rw [h 0 (by omega), h 1 (by omega), h 2 (by omega), h 3 (by omega)]
 omega
def cmpO (l : Int) (x y : Int) : Int := if x < y then -1 else if y < x then 1 else l
def cmpN (a b : Nat) (k : Nat) (l : Int) : Int := cmpO l (lim a k) (lim b k)
def wcmp (a b : Nat) : Int := if a < b then -1 else if b < a then 1 else 0
theorem cmp_parts (a b : Nat) (ha : W256 a) (hb : W256 b) : cmpN a b 3 (cmpN a b 2 (cmpN a b 1 (cmpN a b 0 0))) = wcmp a b := by
 have ea := num_lim a ha
 have eb := num_lim b hb
 have a0 := lim_u64 a 0; have a1 := lim_u64 a 1; have a2 := lim_u64 a 2; have a3 := lim_u64 a 3
 have b0 := lim_u64 b 0; have b1 := lim_u64 b 1; have b2 := lim_u64 b 2; have b3 := lim_u64 b 3
 unfold num at *; unfold cmpN cmpO wcmp; unfold U64 at *
 generalize lim a 0 = x0 at *; generalize lim a 1 = x1 at *; generalize lim a 2 = x2 at *; generalize lim a 3 = x3 at *
 generalize lim b 0 = y0 at *; generalize lim b 1 = y1 at *; generalize lim b 2 = y2 at *; generalize lim b 3 = y3 at *
 by_cases h3 : x3 < y3
 ·rw [if_pos h3, if_pos (by omega)]
 ·by_cases h3' : y3 < x3
  ·rw [if_neg h3, if_pos h3', if_neg (by omega), if_pos (by omega)]
  ·obtain rfl : x3 = y3 := by omega
   rw [if_neg h3, if_neg h3]
   by_cases h2 : x2 < y2
   ·rw [if_pos h2, if_pos (by omega)]
   ·by_cases h2' : y2 < x2
    ·rw [if_neg h2, if_pos h2', if_neg (by omega), if_pos (by omega)]
    ·obtain rfl : x2 = y2 := by omega
     rw [if_neg h2, if_neg h2]
     by_cases h1 : x1 < y1
     ·rw [if_pos h1, if_pos (by omega)]
     ·by_cases h1' : y1 < x1
      ·rw [if_neg h1, if_pos h1', if_neg (by omega), if_pos (by omega)]
      ·obtain rfl : x1 = y1 := by omega
       rw [if_neg h1, if_neg h1]
       by_cases h0 : x0 < y0
       ·rw [if_pos h0, if_pos (by omega)]
       ·by_cases h0' : y0 < x0
        ·rw [if_neg h0, if_pos h0', if_neg (by omega), if_pos (by omega)]
        ·rw [if_neg h0, if_neg h0', if_neg (by omega), if_neg (by omega)]
end
section
open Go Go.RowKit Go.Shelf
attribute [local go_sem] Oper.semAt_some Grows wide_fn
def wv (n : Nat) : Value := .agg #[.int .u64 (lim n 0), .int .u64 (lim n 1), .int .u64 (lim n 2), .int .u64 (lim n 3)]
theorem wv_of {n : Nat} {x0 x1 x2 x3 : Int} (h : lim n 0 = x0 ∧ lim n 1 = x1 ∧ lim n 2 = x2 ∧ lim n 3 = x3) : wv n = .agg #[.int .u64 x0, .int .u64 x1, .int .u64 x2, .int .u64 x3] := by
 obtain ⟨rfl, rfl, rfl, rfl⟩ := h; rfl
theorem Arr4.word (W : World) (t : TypeId) (n : Nat) : Arr4 (W.alloc (.cells #[.int .u64 (lim n 0), .int .u64 (lim n 1), .int .u64 (lim n 2), .int .u64 (lim n 3)] t)) W.heap.size t (lim n) := World.alloc_heap_new W _
theorem Arr4.store {W : World} {B : Nat} {t : TypeId} {m : Nat → Int} (h : Arr4 W B t m) (m' : Nat → Int) :
  Arr4 ((((W.setCell ⟨B, 0, none⟩ (.int .u64 (m' 0))).setCell ⟨B, 1, none⟩ (.int .u64 (m' 1))).setCell ⟨B, 2, none⟩ (.int .u64 (m' 2))).setCell ⟨B, 3, none⟩ (.int .u64 (m' 3))) B t m' := by
 have h := Arr4.set (Arr4.set (Arr4.set (Arr4.set h (k := 0) (by omega) (m' 0)) (k := 1) (by omega) (m' 1)) (k := 2) (by omega) (m' 2)) (k := 3) (by omega) (m' 3)
 exact h
theorem results_word {fn : Func} {t : Tmp} {tmps : Array Value} {W : World} {B : Nat} {m : Nat → Int} (h : fn.results = #[ResultVar.cell t 24]) (ht : tmps.getD t undef = .pointer (some ⟨B, 0, none⟩)) (hA : Arr4 W B 24 m) :
  (results fn tmps).run Tryd.prog W = .ok (.agg #[.int .u64 (m 0), .int .u64 (m 1), .int .u64 (m 2), .int .u64 (m 3)]) W := by
 have e0 := hA.cell (j := 0) (by omega)
 have e1 := hA.cell (j := 1) (by omega)
 have e2 := hA.cell (j := 2) (by omega)
 have e3 := hA.cell (j := 3) (by omega)
 simp at ht
 simp [results, h, ht, go_sem, e0, e1, e2, e3]
theorem compare_ret (x y : Int) : Ret Tryd.prog 80 #[.int .u64 x, .int .u64 y] (.int .i64 (cmpO 0 x y)) := by
 intro w
 by_cases h1 : x < y
 ·have e : cmpO 0 x y = -1 := by unfold cmpO; rw [if_pos h1]
  rw [e]; clear e
  go_enter Tryd.func80, Tryd.ntmps80
  go_wp2
  go_ret
  exact ⟨rfl, Below.refl _ _⟩
 ·by_cases h2 : y < x
  ·have e : cmpO 0 x y = 1 := by unfold cmpO; rw [if_neg h1, if_pos h2]
   rw [e]; clear e
   go_enter Tryd.func80, Tryd.ntmps80
   go_wp2
   go_ret
   exact ⟨rfl, Below.refl _ _⟩
  ·have e : cmpO 0 x y = 0 := by unfold cmpO; rw [if_neg h1, if_neg h2]
   rw [e]; clear e
   go_enter Tryd.func80, Tryd.ntmps80
   go_wp2
   go_ret
   exact ⟨rfl, Below.refl _ _⟩
def orOf (a b : Int) : Int := if a = 0 then b else a
theorem or_int (a b : Int) (g cap : Nat) (w : World) (h0 : w.cell? ⟨g, 0, none⟩ = some (.int .i64 a)) (h1 : w.cell? ⟨g, 1, none⟩ = some (.int .i64 b)) :
  Calls Tryd.prog 79 #[.slice (some ⟨g, 0, none⟩) 2 cap] w fun e w' => e = .returned (.int .i64 (orOf a b)) ∧ w = w' := by
 have hz : Hid (a = 0 → orOf a b = b) := fun h => by unfold orOf; rw [if_pos h]
 have hn : Hid (a ≠ 0 → orOf a b = a) := fun h => by unfold orOf; rw [if_neg h]
 go_enter Tryd.func79, Tryd.ntmps79
 go_wp2
 go_loop [8] (fun i => ∃ k : Nat, k ≤ 2 ∧ i = .int .i64 k ∧ (0 < k → a = 0) ∧ (1 < k → b = 0)) (fun i => 2 - (intOf i).toNat)
 case atStart => exact ⟨0, by omega, rfl, fun h => by omega, fun h => by omega⟩
 case round =>
  obtain ⟨k, hk, rfl, ha, hb⟩ := hrel
  by_cases k0 : k = 0
  ·subst k0
   clear ha hb
   by_cases e : a = 0
   ·have et : (a != 0) = false := by simp [e]
    have HE := Lib.hid e
    clear e
    go_wp2
    go_round
    case rel => exact ⟨1, by omega, by simp, fun _ => HE.out, fun h => by omega⟩
    case measure => simp [intOf]
   ·have et : (a != 0) = true := by simp [e]
    have HE := Lib.hid e
    clear e
    go_wp2
    go_ret
    exact ⟨by rw [hn.out HE.out]; rfl, rfl⟩
  ·by_cases k1 : k = 1
   ·subst k1
    have HA : Hid (a = 0) := ha (by omega)
    clear ha hb
    by_cases e : b = 0
    ·have et : (b != 0) = false := by simp [e]
     have HE := Lib.hid e
     clear e
     go_wp2
     go_round
     case rel => exact ⟨2, by omega, by simp, fun _ => HA.out, fun _ => HE.out⟩
     case measure => simp [intOf]
    ·have et : (b != 0) = true := by simp [e]
     have HE := Lib.hid e
     clear e
     go_wp2
     go_ret
     exact ⟨by rw [hz.out HA.out]; rfl, rfl⟩
   ·obtain rfl : k = 2 := by omega
    have HA : Hid (a = 0) := ha (by omega)
    have HB : Hid (b = 0) := hb (by omega)
    clear ha hb
    go_wp2
    go_ret
    exact ⟨by rw [hz.out HA.out, HB.out]; rfl, rfl⟩
theorem pair_ret (x y l : Int) : Ret Tryd.prog 78 #[.int .u64 x, .int .u64 y, .int .i64 l] (.tuple #[.int .u64 0, .int .i64 (orOf (cmpO 0 x y) l)]) := by
 intro w
 go_enter Tryd.func78, Tryd.ntmps78
 go_wp2_with fail
 refine (compare_ret x y w).mono ?_
 rintro e w1 ⟨rfl, hb1⟩
 go_wp2_with fail
 refine (or_int (cmpO 0 x y) l _ _ _ (by go_simp) (by go_simp)).mono ?_
 rintro e w2 ⟨rfl, rfl⟩
 go_wp2
 go_ret2
 exact ⟨rfl, hb1.alloc hb1.size _⟩
theorem orOf_cmp (x y l : Int) : orOf (cmpO 0 x y) l = cmpO l x y := by
 unfold orOf cmpO
 by_cases h1 : x < y
 ·simp [h1]
 ·by_cases h2 : y < x
  ·simp [h1, h2]
  ·simp [h1, h2]
theorem cmp_ret (a b : Nat) (ha : W256 a) (hb : W256 b) : Ret Tryd.prog 65 #[wv a, wv b] (.int .i64 (wcmp a b)) := by
 intro w
 have hJ := fun W => join_int (lim a) (lim b) (fun _ _ => 0) (cmpN a b) 0 (fun _ => True) trivial (fun _ _ _ _ => trivial)
  (fun k _ l _ => by have h := pair_ret (lim a k) (lim b k) l; rw [orOf_cmp] at h; exact h) W
 have hP := cmp_parts a b ha hb
 have hL : leftOf (cmpN a b) 0 [0, 1, 2, 3] = wcmp a b := hP
 rw [hL] at hJ
 have HJ := Lib.hid hJ
 clear hJ hP hL
 unfold wv
 go_enter Tryd.func65, Tryd.ntmps65
 go_wp2_with fail
 have A1 := (Arr4.word w 24 a).alloc (.cells #[.int .u64 (lim b 0), .int .u64 (lim b 1), .int .u64 (lim b 2), .int .u64 (lim b 3)] 24)
 have A2 := Arr4.word (w.alloc (.cells #[.int .u64 (lim a 0), .int .u64 (lim a 1), .int .u64 (lim a 2), .int .u64 (lim a 3)] 24)) 24 b
 have B0 := ((Below.refl _ w).alloc (Nat.le_refl _) (.cells #[.int .u64 (lim a 0), .int .u64 (lim a 1), .int .u64 (lim a 2), .int .u64 (lim a 3)] 24)).alloc (by simp) (.cells #[.int .u64 (lim b 0), .int .u64 (lim b 1), .int .u64 (lim b 2), .int .u64 (lim b 3)] 24)
 rw [World.size_alloc] at A2
 refine (HJ.out _).mono ?_
 rintro e w1 ⟨rfl, hb1⟩
 have BB := B0.trans (hb1.mono B0.size)
 have hz : w.heap.size ≤ w1.heap.size := BB.size
 clear A1 A2 B0 hb1 HJ
 go_wp2
 go_ret
 exact ⟨rfl, by (repeat (first | exact BB | refine Below.setCell ?_ (by first | omega | (simp; done) | (simp; omega)) _ | refine Below.alloc ?_ (by first | omega | (simp; done) | (simp; omega)) _ | refine Below.drew ?_))⟩
end
section
open Go Go.RowKit
theorem grown_of_below {w W : World} (h : Below w.heap.size w W) (row : Option Nat) : w.grownBy W row := ⟨h.os, h.tape, h.output, h.size, fun k hk _ => h.block k hk⟩
def SeqN (F : Fence) (n : Nat) (P : Program) (g : Nat) (lb : Array Value) (enc : Nat → Array Value) (Kp : World → World → Prop) (N : Nat) (w : World) : Prop :=
 ∀ (l : Nat) (J Jx : Nat → World → Prop) (W : World), Below w.heap.size w W → AbidesFrom W.heap.size J → AbidesFrom W.heap.size Jx →
  (∀ k W1, k < N → J k W1 → YieldAt F (n - 1) P l (enc k) W1 fun e W' =>
   (e = .returned (.bool true) ∧ J (k + 1) W' ∧ Kp W1 W') ∨ (e = .returned (.bool false) ∧ Jx k W')) →
  J 0 W →
  CallsIn F n P g (#[.func (.yield l) #[] #[]] ++ lb) W fun e W' => (∃ v, e = .returned v) ∧ (J N W' ∨ ∃ k, k < N ∧ Jx k W')
def roundN (B : Nat) (Kp : World → World → Prop) (I : Nat → World → Prop) (Ix : Code → Nat → World → Prop) (k : Nat) (W : World) : Exit → Act → World → Prop
 | .normal, _, W' => KeepsFrom B W W' ∧ Kp W W' ∧ I (k + 1) W'
 | .ret, _, W' => KeepsFrom B W W' ∧ Ix .ret k W'
 | .exit id, _, W' => KeepsFrom B W W' ∧ Ix (.exit id) k W'
 | .goto t, _, W' => KeepsFrom B W W' ∧ Ix (.goto t) k W'
 | .panic _, _, _ => False
 | .outgrown, _, _ => False
variable {F : Fence} {n : Nat} {P : Program}
theorem wpIn_rangeFunc_N {g : Operand} {ps : Array Tmp} {assign body : Code} {Q : Exit → Act → World → Prop} {a : Act} {w : World}
  (hro : F.round = none) (h1 : 1 ≤ n) {gf : Nat} {lb : Array Value} (hg : a.eval g = .func (.func gf) #[] lb) (hFg : F.fn gf) (eg : ∀ args w, (callFunc gf args).run P w = .ok (.enter gf args) w)
  {enc : Nat → Array Value} {Kp : World → World → Prop} {N : Nat} (hseq : SeqN F (n - 1) P gf lb enc Kp N w)
  (hKt : ∀ {A B C : World}, Kp A B → Kp B C → Kp A C) (hKb : ∀ (W : World) (l : Nat) (o o' : Obj), w.heap.size ≤ l → W.heap[l]? = some o → o.isCells = false → o.isWalk = false → Kp W (W.putObj l o')) (hps : ∀ k, k < N → (enc k).size = ps.size)
  (I : Nat → World → Prop) (Ix : Code → Nat → World → Prop) (hI : OwnFrom w.heap.size I) (hIx : ∀ c, OwnFrom w.heap.size (Ix c)) (h0 : I 0 w) (Ax : Nat → Act → World → Prop) (hAx : ∀ k a', OwnFrom w.heap.size (fun (_ : Unit) W => Ax k a' W))
  (hassign : ∀ (l k : Nat) (W : World) (K : Act → World → Prop), k < N → I k W → (∀ a' W', KeepsFrom w.heap.size W W' → Kp W W' → I k W' → Ax k a' W' → K a' W') →
   assign.wpIn (F.inRound l) (n - 1 - 1) P (Exit.then K (fun _ _ _ => False)) { tmps := (ps.zip (enc k)).foldl (fun t (p, v) => t.setIfInBounds p v) a.tmps, defers := [] } W)
  (hbody : ∀ (l k : Nat) (a' : Act) (W : World), w.heap.size ≤ l → (∃ r, W.heap[l]? = some (.loop r)) → k < N → I k W → Ax k a' W → body.wpIn (F.inRound l) (n - 1 - 1) P (roundN w.heap.size Kp I Ix k W) a' W)
  (hdone : ∀ (D : Nat) (W : World), w.heap.size ≤ D → I N W → W.heap[D]? = some (.deferred (some [])) → Q .normal { a with defers := { target := .collected D, args := #[] } :: a.defers } W)
  (hstop : ∀ (D : Nat) (c : Code) (k : Nat) (W : World), w.heap.size ≤ D → k < N → Ix c k W → W.heap[D]? = some (.deferred (some [])) → c.wpIn F n P Q { a with defers := { target := .collected D, args := #[] } :: a.defers } W) :
  (Code.rangeFunc g ps assign body).wpIn F n P Q a w := by
 refine wpIn_rangeFunc ?_
 intro fn hfn
 rw [hro]
 obtain ⟨rec, hrec⟩ : ∃ rec : LoopState → Option Code → Loop, rec = fun st pe => { state := st, pending := pe, fn, tmps := a.tmps, params := ps, assign, body, defers := w.heap.size } := ⟨_, rfl⟩
 obtain ⟨W1, hW1⟩ : ∃ W1, (w.alloc (.deferred (some []))).alloc (.loop (rec .ready none)) = W1 := ⟨_, rfl⟩
 have hL1 : W1.heap[w.heap.size + 1]? = some (.loop (rec .ready none)) := by
  rw [← hW1]; have := World.alloc_heap_new (w.alloc (.deferred (some []))) (.loop (rec .ready none)); rwa [World.size_alloc] at this
 have hK1 : W1.heap[w.heap.size]? = some (.deferred (some [])) := by
  rw [← hW1]; exact (Below.heap_alloc _ _ _ (by simp)).trans (World.alloc_heap_new w _)
 have hI1 : I 0 W1 := by rw [← hW1]; exact hI.alloc _ (hI.alloc _ h0)
 have hb1 : Below w.heap.size w W1 := by
  rw [← hW1]; exact ((Below.refl _ w).alloc (Nat.le_refl _) _).alloc (by simp) _
 refine ⟨w.heap.size + 1, [{ target := .collected w.heap.size, args := #[] }], W1, { target := .fn (.func gf) lb, args := #[.func (.yield (w.heap.size + 1)) #[] #[]] }, W1, gf,
  #[.func (.yield (w.heap.size + 1)) #[] #[]] ++ lb, W1, ?_, ?_, ?_, ?_, fun _ => h1, ?_⟩
 ·rw [← hW1, hrec]; exact run_enterLoop_outer _ _ _ _ _
 ·simp only [resolve, hg]
  simp [go_sem]
 ·intro f' hf'; simp [Target.leads] at hf'; subst hf'; exact hFg
 ·simp [invoke, go_sem, eg]
 ·have hnw : ∀ {A B : World} {row : Option Nat}, (∀ r, row = some r → W1.heap.size ≤ r ∧ ∃ o : Obj, A.heap[r]? = some o ∧ o.isWalk = true) → (∀ r, row = some r → w.heap.size ≤ r ∧ ∃ o : Obj, A.heap[r]? = some o ∧ o.isCells = false) :=
   fun hr r e => by obtain ⟨hB, o, ho, hw⟩ := hr r e; exact ⟨by rw [← hW1] at hB; simp at hB; omega, o, ho, Obj.not_cells_of_walk hw⟩
  refine (hseq (w.heap.size + 1)
   (fun k W => I k W ∧ W.heap[w.heap.size + 1]? = some (.loop (rec .ready none)) ∧ W.heap[w.heap.size]? = some (.deferred (some [])))
   (fun k W => ∃ c, Ix c k W ∧ W.heap[w.heap.size + 1]? = some (.loop (rec .done (some c))) ∧ W.heap[w.heap.size]? = some (.deferred (some [])))
   W1 hb1
   (fun s A B row hs hg' hr => ⟨hI s A B row hs.1 hg' (hnw (B := B) hr), (grownBy_keeps hg' (fun r e => (hr r e).2) hs.2.1 rfl).trans hs.2.1, (grownBy_keeps hg' (fun r e => (hr r e).2) hs.2.2 rfl).trans hs.2.2⟩)
   (fun s A B row hs hg' hr => by
    obtain ⟨c, hc, hl, hk⟩ := hs
    exact ⟨c, hIx c s A B row hc hg' (hnw (B := B) hr), (grownBy_keeps hg' (fun r e => (hr r e).2) hl rfl).trans hl, (grownBy_keeps hg' (fun r e => (hr r e).2) hk rfl).trans hk⟩)
   ?_ ⟨hI1, hL1, hK1⟩).mono ?_
  ·rintro k W hkN ⟨hi, hl, hk⟩
   have hlt : w.heap.size + 1 < W.heap.size := (Array.getElem?_eq_some_iff.1 hl).1
   have hy := run_yield (P := P) (args := enc k) hl (by rw [hrec]; exact hps k hkN)
   rw [hrec] at hy
   refine ⟨fn, _, assign, body, hy, roundIn_of_wpIn hfn (hassign _ k W _ hkN hi ?_)⟩
   clear hy
   intro a' Wa hkfa hkpa hia hax
   replace hl := hkfa.same _ _ (by omega) hl rfl
   replace hk := hkfa.same _ _ (Nat.le_refl _) hk rfl
   replace hlt : w.heap.size + 1 < Wa.heap.size := (Array.getElem?_eq_some_iff.1 hl).1
   refine ⟨_, run_beginRound hl (by rw [hrec]), ?_⟩
   have hl2 : (Wa.putObj (w.heap.size + 1) (.loop { rec .ready none with state := .busy })).heap[w.heap.size + 1]? = some (.loop { rec .ready none with state := .busy }) := World.putObj_heap_same hlt
   have hk2 : (Wa.putObj (w.heap.size + 1) (.loop { rec .ready none with state := .busy })).heap[w.heap.size]? = some (.deferred (some [])) := (World.putObj_heap_other (by omega)).trans hk
   have hw2 : Kp Wa (Wa.putObj (w.heap.size + 1) (.loop { rec .ready none with state := .busy })) := hKb _ _ _ _ (by omega) hl rfl rfl
   refine wpIn_mono (hbody _ k a' _ (by omega) ⟨_, hl2⟩ hkN (hI.putObj _ hia (by omega) hl rfl) ((hAx k a').putObj (s := ()) _ hax (by omega) hl rfl)) ?_
   have fin : ∀ (jump : Option Code) (W3 : World), KeepsFrom w.heap.size (Wa.putObj (w.heap.size + 1) (.loop { rec .ready none with state := .busy })) W3 →
     (Instr.endRound (w.heap.size + 1) jump).run P W3 = .ok (.bool jump.isNone) (W3.putObj (w.heap.size + 1) (.loop (rec (if jump.isNone then .ready else .done) jump))) ∧
     W3.heap[w.heap.size + 1]? = some (.loop { rec .ready none with state := .busy }) ∧
     (W3.putObj (w.heap.size + 1) (.loop (rec (if jump.isNone then .ready else .done) jump))).heap[w.heap.size + 1]? = some (.loop (rec (if jump.isNone then .ready else .done) jump)) ∧
     (W3.putObj (w.heap.size + 1) (.loop (rec (if jump.isNone then .ready else .done) jump))).heap[w.heap.size]? = some (.deferred (some [])) := fun jump W3 hk3 => by
    have hl3 := hk3.same _ _ (by omega) hl2 rfl
    have := run_endRound (P := P) jump hl3
    rw [hrec] at this ⊢
    exact ⟨this, by rw [hrec] at hl3; exact hl3, World.putObj_heap_same (Array.getElem?_eq_some_iff.1 hl3).1, (World.putObj_heap_other (by omega)).trans (hk3.same _ _ (Nat.le_refl _) hk2 rfl)⟩
   rintro e a3 W3 hp
   cases e with
   | normal =>
    obtain ⟨hk3, hkp3, hi3⟩ := hp
    obtain ⟨hr, hl3, hl4, hk4⟩ := fin none W3 hk3
    exact ⟨_, _, hr, .inl ⟨rfl, ⟨hI.putObj _ hi3 (by omega) hl3 rfl, hl4, hk4⟩, hKt hkpa (hKt (hKt hw2 hkp3) (hKb _ _ _ _ (by omega) hl3 rfl rfl))⟩⟩
   | ret =>
    obtain ⟨hk3, hi3⟩ := hp
    obtain ⟨hr, hl3, hl4, hk4⟩ := fin (some .ret) W3 hk3
    exact ⟨_, _, hr, .inr ⟨rfl, .ret, (hIx _).putObj _ hi3 (by omega) hl3 rfl, hl4, hk4⟩⟩
   | exit id =>
    obtain ⟨hk3, hi3⟩ := hp
    obtain ⟨hr, hl3, hl4, hk4⟩ := fin (some (.exit id)) W3 hk3
    exact ⟨_, _, hr, .inr ⟨rfl, .exit id, (hIx _).putObj _ hi3 (by omega) hl3 rfl, hl4, hk4⟩⟩
   | goto t =>
    obtain ⟨hk3, hi3⟩ := hp
    obtain ⟨hr, hl3, hl4, hk4⟩ := fin (some (.goto t)) W3 hk3
    exact ⟨_, _, hr, .inr ⟨rfl, .goto t, (hIx _).putObj _ hi3 (by omega) hl3 rfl, hl4, hk4⟩⟩
   | panic ch => exact hp.elim
   | outgrown => exact hp.elim
  ·rintro e W2 ⟨⟨v, rfl⟩, (⟨hi, hl, hk⟩ | ⟨k, hkN, c, hi, hl, hk⟩)⟩
   ·exact ⟨none, _, by have := run_endLoop (P := P) hl (by rw [hrec]; simp); rw [hrec] at this; exact this, hdone _ _ (Nat.le_refl _) (hI.putObj _ hi (by omega) hl rfl) ((World.putObj_heap_other (by omega)).trans hk)⟩
   ·exact ⟨some c, _, by have := run_endLoop (P := P) hl (by rw [hrec]; simp); rw [hrec] at this; exact this, hstop _ c k _ (Nat.le_refl _) hkN ((hIx c).putObj _ hi (by omega) hl rfl) ((World.putObj_heap_other (by omega)).trans hk)⟩
theorem wpIn_rangeFunc_N1 {g : Operand} {ps : Array Tmp} {assign body : Code} {Q : Exit → Act → World → Prop} {a : Act} {w : World}
  (hro : F.round = none) (h1 : 1 ≤ n) {gf : Nat} {lb : Array Value} (hg : a.eval g = .func (.func gf) #[] lb) (hFg : F.fn gf) (eg : ∀ args w, (callFunc gf args).run P w = .ok (.enter gf args) w)
  {enc : Nat → Array Value} {Kp : World → World → Prop} {N : Nat} (hseq : SeqN F (n - 1) P gf lb enc Kp N w)
  (hKt : ∀ {A B C : World}, Kp A B → Kp B C → Kp A C) (hKr : ∀ W, Kp W W) (hKb : ∀ (W : World) (l : Nat) (o o' : Obj), w.heap.size ≤ l → W.heap[l]? = some o → o.isCells = false → o.isWalk = false → Kp W (W.putObj l o')) (hps : ∀ k, k < N → (enc k).size = ps.size)
  (I : Nat → World → Prop) (Ix : Code → Nat → World → Prop) (hI : OwnFrom w.heap.size I) (hIx : ∀ c, OwnFrom w.heap.size (Ix c)) (h0 : I 0 w) (a₁ : Nat → Act)
  (hassign : ∀ (l k : Nat) (W : World) (K : Act → World → Prop), k < N → K (a₁ k) W →
   assign.wpIn (F.inRound l) (n - 1 - 1) P (Exit.then K (fun _ _ _ => False)) { tmps := (ps.zip (enc k)).foldl (fun t (p, v) => t.setIfInBounds p v) a.tmps, defers := [] } W)
  (hbody : ∀ (l k : Nat) (W : World), w.heap.size ≤ l → k < N → I k W → body.wpIn (F.inRound l) (n - 1 - 1) P (roundN w.heap.size Kp I Ix k W) (a₁ k) W)
  (hdone : ∀ (D : Nat) (W : World), w.heap.size ≤ D → I N W → W.heap[D]? = some (.deferred (some [])) → Q .normal { a with defers := { target := .collected D, args := #[] } :: a.defers } W)
  (hstop : ∀ (D : Nat) (c : Code) (k : Nat) (W : World), w.heap.size ≤ D → k < N → Ix c k W → W.heap[D]? = some (.deferred (some [])) → c.wpIn F n P Q { a with defers := { target := .collected D, args := #[] } :: a.defers } W) :
  (Code.rangeFunc g ps assign body).wpIn F n P Q a w :=
 wpIn_rangeFunc_N hro h1 hg hFg eg hseq hKt hKb hps I Ix hI hIx h0 (fun k a' _ => a' = a₁ k) (fun _ _ _ _ _ _ hs _ _ => hs)
  (fun l k W K hk hi hK => hassign l k W K hk (hK _ _ (KeepsFrom.refl _ _) (hKr W) hi rfl)) (fun l k a' W hl _ hk hi e => by subst e; exact hbody l k W hl hk hi) hdone hstop
end
section
open Go Go.RowKit Go.Shelf
attribute [local go_sem] Oper.semAt_some
theorem parts_seq (n : Nat) (hn : 1 ≤ n) (Bs b : Nat) (z : Nat → Int) (w : World) (hBs : Bs < w.heap.size) (hb : b < w.heap.size)
  (hcB : w.cell? ⟨Bs, 0, none⟩ = some (.pointer (some ⟨b, 0, none⟩))) (hc : ∀ j, j < 4 → w.cell? ⟨b, j, none⟩ = some (.int .u64 (z j))) :
  SeqN Fence.wide n Tryd.prog 87 #[.pointer (some ⟨Bs, 0, none⟩)] (fun k => #[.int .i64 (k : Int), .int .u64 (z k)]) (KeepsAt [b, Bs]) 4 w := by
 intro l J Jx W hW _ _ hY h0
 have hBs' := (hW.cell (p := ⟨Bs, 0, none⟩) hBs).trans hcB
 have hc' : ∀ j, j < 4 → W.cell? ⟨b, j, none⟩ = some (.int .u64 (z j)) := fun j hj => (hW.cell (p := ⟨b, j, none⟩) hb).trans (hc j hj)
 clear hcB hc
 refine callsIn_of_wp Tryd.func87 rfl trivial ?_ rfl
 simp only [Tryd.ntmps87, List.size_toArray, List.length_cons, List.length_nil, Nat.reduceAdd, Nat.reduceSub, Array.replicate_succ, Array.replicate_zero, List.push_toArray, List.append_toArray, List.nil_append, List.cons_append]
 gi_wp2
 gi_loopw [4] (fun i wr => ∃ k : Nat, k ≤ 4 ∧ i = .int .i64 k ∧ J k wr ∧ KeepsAt [b, Bs] W wr)
  (fun i _ => 4 - (intOf i).toNat)
 case atStart => exact ⟨0, Nat.zero_le _, rfl, h0, KeepsAt.refl _ _⟩
 case round =>
  obtain ⟨k, hk, rfl, hJs, hnx⟩ := hrel
  by_cases hlt : k < 4
  ·obtain ⟨fn, tmps, assign, body, hy, hR⟩ := hY k wr hlt hJs
   have hcx : wr.cell? ⟨b, k, none⟩ = some (.int .u64 (z k)) := (hnx.cell (p := ⟨b, k, none⟩) (by simp)).trans (hc' k hlt)
   have hbx : wr.cell? ⟨Bs, 0, none⟩ = some (.pointer (some ⟨b, 0, none⟩)) := (hnx.cell (p := ⟨Bs, 0, none⟩) (by simp)).trans hBs'
   clear hc' hBs'
   gi_wp2
   refine hR.mono ?_
   rintro e W3 (⟨rfl, hJ3, hk3⟩ | ⟨rfl, hJx3⟩)
   ·gi_wp2
    go_roundw
    case rel => exact ⟨k + 1, by omega, by simp, hJ3, hnx.trans hk3⟩
    case measure => simp [intOf]; omega
   ·gi_wp2
    refine bodyPost_ret (results_none rfl _ _ _) rfl ?_
    exact ⟨⟨_, rfl⟩, .inr ⟨k, hlt, hJx3⟩⟩
  ·obtain rfl : k = 4 := by omega
   gi_wp2
   go_end0
   exact ⟨⟨_, rfl⟩, .inl hJs⟩
end
section
open Go Go.RowKit Go.Shelf
attribute [local go_sem] Oper.semAt_some Grows wide_fn
def I64 (n : Int) : Prop := -9223372036854775808 ≤ n ∧ n ≤ 9223372036854775807
def ofN (n : Int) : Nat := if n < 0 then (115792089237316195423570985008687907853269984665640564039457584007913129639936 + n).toNat else n.toNat
theorem of_neg (n : Int) (h : I64 n) (hn : n < 0) : lim (ofN n) 0 = 18446744073709551616 + n ∧ lim (ofN n) 1 = 18446744073709551615 ∧ lim (ofN n) 2 = 18446744073709551615 ∧ lim (ofN n) 3 = 18446744073709551615 := by
 unfold I64 at h
 refine lim_num (fun k => if k = 0 then 18446744073709551616 + n else 18446744073709551615) _ ?_ ?_ ?_ ?_ ?_
 ·unfold U64; simp; omega
 ·unfold U64; simp
 ·unfold U64; simp
 ·unfold U64; simp
 ·unfold num ofN; rw [if_pos hn]; simp; omega
theorem of_pos (n : Int) (h : I64 n) (hn : ¬ n < 0) : lim (ofN n) 0 = n ∧ lim (ofN n) 1 = 0 ∧ lim (ofN n) 2 = 0 ∧ lim (ofN n) 3 = 0 := by
 unfold I64 at h
 refine lim_num (fun k => if k = 0 then n else 0) _ ?_ ?_ ?_ ?_ ?_
 ·unfold U64; simp; omega
 ·unfold U64; simp
 ·unfold U64; simp
 ·unfold U64; simp
 ·unfold num ofN; rw [if_neg hn]; simp; omega
theorem of_wrap (n : Int) (h : I64 n) : lim (ofN n) 0 = IntKind.u64.wrap n ∧ lim (ofN n) 1 = IntKind.u64.wrap (n / 9223372036854775808) ∧ lim (ofN n) 2 = IntKind.u64.wrap (n / 9223372036854775808) ∧ lim (ofN n) 3 = IntKind.u64.wrap (n / 9223372036854775808) := by
 by_cases hn : n < 0
 ·obtain ⟨h0, h1, h2, h3⟩ := of_neg n h hn
  rw [h0, h1, h2, h3]
  unfold I64 at h
  simp only [IntKind.wrap_u64]
  refine ⟨?_, ?_, ?_, ?_⟩ <;> omega
 ·obtain ⟨h0, h1, h2, h3⟩ := of_pos n h hn
  rw [h0, h1, h2, h3]
  unfold I64 at h
  simp only [IntKind.wrap_u64]
  refine ⟨?_, ?_, ?_, ?_⟩ <;> omega
theorem of_ret (n : Int) (h : I64 n) : Ret Tryd.prog 64 #[.int .i64 n] (wv (ofN n)) := by
 intro w
 rw [wv_of (of_wrap n h)]
 go_enter Tryd.func64, Tryd.ntmps64
 go_wp2
 exact bodyPost_ret (results_word rfl rfl (Arr4.new w _ _ _ _ _)) rfl ⟨rfl, (Below.refl _ _).alloc (Nat.le_refl _) _⟩
def maxI : Nat := 4611686018427387903
theorem maxI_lim : lim maxI 0 = 4611686018427387903 ∧ lim maxI 1 = 0 ∧ lim maxI 2 = 0 ∧ lim maxI 3 = 0 := ⟨rfl, rfl, rfl, rfl⟩
theorem maxI_lt : W256 maxI := by unfold W256 maxI; omega
def intV (a : Nat) : Value := if a ≤ maxI then .tuple #[.int .i64 (a : Int), .bool true] else .tuple #[.int .i64 0, .bool false]
theorem int_ret (a : Nat) (ha : W256 a) : Ret Tryd.prog 62 #[wv a] (intV a) := by
 intro w
 have hc := cmp_ret a maxI ha maxI_lt
 rw [wv_of maxI_lim] at hc
 have A0 := Arr4.word w 24 a
 by_cases hle : a ≤ maxI
 ·have e0 : wrap64 (lim a 0) = (a : Int) := by
   have : lim a 0 = ((a % 18446744073709551616 : Nat) : Int) := rfl
   rw [this]
   unfold wrap64
   unfold maxI at hle
   omega
  have hv : intV a = .tuple #[.int .i64 (wrap64 (lim a 0)), .bool true] := by unfold intV; rw [if_pos hle, e0]
  have hw : wcmp a maxI ≤ 0 := by unfold wcmp; split <;> (try split) <;> omega
  rw [hv]
  have HC := Lib.hid hc
  generalize wcmp a maxI = c at *
  unfold wv at HC ⊢
  clear hc e0 hv hle ha
  go_enter Tryd.func62, Tryd.ntmps62
  go_wp2_with fail
  refine (HC.out _).mono ?_
  rintro e w1 ⟨rfl, hb1⟩
  have hx := (Arr4.below A0 hb1 (by simp)).cell (j := 0) (by omega)
  have BB := ((Below.refl _ w).alloc (Nat.le_refl _) (.cells #[.int .u64 (lim a 0), .int .u64 (lim a 1), .int .u64 (lim a 2), .int .u64 (lim a 3)] 24)).trans (hb1.mono (by simp))
  clear hb1 A0
  go_wp2
  go_ret2
  exact ⟨rfl, BB⟩
 ·have hv : intV a = .tuple #[.int .i64 0, .bool false] := by unfold intV; rw [if_neg hle]
  have hw : 0 < wcmp a maxI := by unfold wcmp; rw [if_neg (by omega), if_pos (by omega)]; omega
  rw [hv]
  have HC := Lib.hid hc
  generalize wcmp a maxI = c at *
  unfold wv at HC ⊢
  clear hc hv hle ha
  go_enter Tryd.func62, Tryd.ntmps62
  go_wp2_with fail
  refine (HC.out _).mono ?_
  rintro e w1 ⟨rfl, hb1⟩
  have BB := ((Below.refl _ w).alloc (Nat.le_refl _) (.cells #[.int .u64 (lim a 0), .int .u64 (lim a 1), .int .u64 (lim a 2), .int .u64 (lim a 3)] 24)).trans (hb1.mono (by simp))
  clear hb1 A0
  go_wp2
  go_ret2
  exact ⟨rfl, BB⟩
end
end Go.Proofs.YtlihnlkcgiopoaaDoor
