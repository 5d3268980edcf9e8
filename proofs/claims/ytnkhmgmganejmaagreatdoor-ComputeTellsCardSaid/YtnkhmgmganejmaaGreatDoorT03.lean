/- Part. -/
import Derived.Test.YtnkhmgmganejmaaGreatDoorT02
import Derived.Lib.Hide
import Derived.Shelf.Spec.BitsCarry
import Derived.Shelf.Bits.Mul64
import Derived.Lib.Mul64
import Derived.RangeFuncRecord
import Derived.Test.YtnkhmgmganejmaaGreatDoorT01
set_option maxRecDepth 100000
set_option maxHeartbeats 16000000
namespace Go.Proofs.YtnkhmgmganejmaaGreatDoor
section
open Go Go.RowKit Go.Shelf
attribute [local go_sem] Oper.semAt_some Grows wide_fn
def JoinIAt (H : Nat) (zA zB : Nat → Int) (fv : Value) (m : Nat → Int) (l : Int) (W : World) : Prop :=
 Arr4 W H 24 zA ∧ Arr4 W (H + 1) 24 zB ∧ Boxed W (H + 1 + 1) 3 (.int .i64 l) ∧ Boxed W (H + 1 + 1 + 1) 157 fv ∧
  Arr4 W (H + 1 + 1 + 1 + 1) 24 (fun _ => 0) ∧ Arr4 W (H + 1 + 1 + 1 + 1 + 1) 24 m ∧ Boxed W (H + 1 + 1 + 1 + 1 + 1 + 1) 125 (.pointer (some ⟨H, 0, none⟩))
theorem JoinIAt.own {β : Type} (H : Nat) (zA zB : Nat → Int) (fv : Value) (m : β → Nat → Int) (l : β → Int) : Own (fun s W => JoinIAt H zA zB fv (m s) (l s) W) := fun s X Y row hs hg hr =>
 ⟨Arr4.own H _ (fun _ : β => zA) s X Y row hs.1 hg hr, Arr4.own (H + 1) _ (fun _ : β => zB) s X Y row hs.2.1 hg hr, boxed_own (H + 1 + 1) _ (fun s : β => Value.int .i64 (l s)) s X Y row hs.2.2.1 hg hr, boxed_own (H + 1 + 1 + 1) _ (fun _ : β => fv) s X Y row hs.2.2.2.1 hg hr,
  Arr4.own (H + 1 + 1 + 1 + 1) _ (fun _ : β => fun _ => 0) s X Y row hs.2.2.2.2.1 hg hr, Arr4.own (H + 1 + 1 + 1 + 1 + 1) _ m s X Y row hs.2.2.2.2.2.1 hg hr, boxed_own (H + 1 + 1 + 1 + 1 + 1 + 1) _ (fun _ : β => _) s X Y row hs.2.2.2.2.2.2 hg hr⟩
theorem join_int (zA zB : Nat → Int) (o nx : Nat → Int → Int) (l0 : Int) (Lb : Int → Prop) (hL0 : Lb l0) (hLn : ∀ k, k < 4 → ∀ l, Lb l → Lb (nx k l))
  (hrun : ∀ k, k < 4 → ∀ l, Lb l → Ret Tryz.prog 167 #[.int .u64 (zA k), .int .u64 (zB k), .int .i64 l] (.tuple #[.int .u64 (o k l), .int .i64 (nx k l)]))
  (w : World) :
  Calls Tryz.prog 166 #[.agg #[.int .u64 (zA 0), .int .u64 (zA 1), .int .u64 (zA 2), .int .u64 (zA 3)], .agg #[.int .u64 (zB 0), .int .u64 (zB 1), .int .u64 (zB 2), .int .u64 (zB 3)], .int .i64 l0, .func (.func 167) #[] #[]] w fun e w' =>
   e = .returned (.tuple #[.agg #[.int .u64 (madeOf o nx l0 [0, 1, 2, 3] (fun _ => 0) 0), .int .u64 (madeOf o nx l0 [0, 1, 2, 3] (fun _ => 0) 1), .int .u64 (madeOf o nx l0 [0, 1, 2, 3] (fun _ => 0) 2), .int .u64 (madeOf o nx l0 [0, 1, 2, 3] (fun _ => 0) 3)], .int .i64 (leftOf nx l0 [0, 1, 2, 3])]) ∧ Below w.heap.size w w' := by
 have h1 : 1 ≤ 3 := by omega
 refine (callsIn_wide (n := 3)).1 ?_
 refine callsIn_of_wp_marks Tryz.func166 rfl trivial ?_ rfl
 simp only [Tryz.ntmps166, List.size_toArray, List.length_cons, List.length_nil, Nat.reduceAdd, Nat.reduceSub, Array.replicate_succ, Array.replicate_zero, List.push_toArray, List.append_toArray, List.nil_append, List.cons_append]
 gi_wp2_with (gi_at_call 137; refine (callsIn_free free_wide (parts_any _ _)).mono ?_; rintro e w' ⟨rfl, rfl⟩)
 obtain ⟨W0, hW0⟩ : ∃ W0, (((((((w.alloc (.cells #[.int .u64 (zA 0), .int .u64 (zA 1), .int .u64 (zA 2), .int .u64 (zA 3)] 24)).alloc (.cells #[.int .u64 (zB 0), .int .u64 (zB 1), .int .u64 (zB 2), .int .u64 (zB 3)] 24)).alloc (.cells #[.int .i64 l0] 3)).alloc (.cells #[.func (.func 167) #[] #[]] 157)).alloc (.cells #[.int .u64 0, .int .u64 0, .int .u64 0, .int .u64 0] 24)).alloc (.cells #[.int .u64 0, .int .u64 0, .int .u64 0, .int .u64 0] 24)).alloc (.cells #[.pointer (some ⟨w.heap.size, 0, none⟩)] 125)) = W0 := ⟨_, rfl⟩
 have hB0 : Below w.heap.size w W0 := by
  rw [← hW0]; exact (((((((Below.refl _ w).alloc (by first | exact Nat.le_refl _ | (simp; done) | (simp; omega)) _).alloc (by first | exact Nat.le_refl _ | (simp; done) | (simp; omega)) _).alloc (by first | exact Nat.le_refl _ | (simp; done) | (simp; omega)) _).alloc (by first | exact Nat.le_refl _ | (simp; done) | (simp; omega)) _).alloc (by first | exact Nat.le_refl _ | (simp; done) | (simp; omega)) _).alloc (by first | exact Nat.le_refl _ | (simp; done) | (simp; omega)) _).alloc (by first | exact Nat.le_refl _ | (simp; done) | (simp; omega)) _
 have hsz : W0.heap.size = w.heap.size + 7 := by rw [← hW0]; simp
 have hJ0 : JoinIAt w.heap.size zA zB (.func (.func 167) #[] #[]) (fun _ => 0) l0 W0 := by
  rw [← hW0]
  refine ⟨?_, ?_, ?_, ?_, ?_, ?_, ?_⟩
  ·have h := World.alloc_heap_new w (.cells #[.int .u64 (zA 0), .int .u64 (zA 1), .int .u64 (zA 2), .int .u64 (zA 3)] 24)
   exact (((((((show Arr4 _ _ _ zA from h).alloc _).alloc _).alloc _).alloc _).alloc _).alloc _)
  ·have h := World.alloc_heap_new (w.alloc (.cells #[.int .u64 (zA 0), .int .u64 (zA 1), .int .u64 (zA 2), .int .u64 (zA 3)] 24)) (.cells #[.int .u64 (zB 0), .int .u64 (zB 1), .int .u64 (zB 2), .int .u64 (zB 3)] 24)
   rw [World.size_alloc] at h
   exact ((((((show Arr4 _ _ _ zB from h).alloc _).alloc _).alloc _).alloc _).alloc _)
  ·have h := Boxed.new ((w.alloc (.cells #[.int .u64 (zA 0), .int .u64 (zA 1), .int .u64 (zA 2), .int .u64 (zA 3)] 24)).alloc (.cells #[.int .u64 (zB 0), .int .u64 (zB 1), .int .u64 (zB 2), .int .u64 (zB 3)] 24)) 3 (.int .i64 l0)
   rw [World.size_alloc, World.size_alloc] at h
   exact ((((h.alloc _).alloc _).alloc _).alloc _)
  ·have h := Boxed.new (((w.alloc (.cells #[.int .u64 (zA 0), .int .u64 (zA 1), .int .u64 (zA 2), .int .u64 (zA 3)] 24)).alloc (.cells #[.int .u64 (zB 0), .int .u64 (zB 1), .int .u64 (zB 2), .int .u64 (zB 3)] 24)).alloc (.cells #[.int .i64 l0] 3)) 157 (.func (.func 167) #[] #[])
   rw [World.size_alloc, World.size_alloc, World.size_alloc] at h
   exact (((h.alloc _).alloc _).alloc _)
  ·have h := World.alloc_heap_new ((((w.alloc (.cells #[.int .u64 (zA 0), .int .u64 (zA 1), .int .u64 (zA 2), .int .u64 (zA 3)] 24)).alloc (.cells #[.int .u64 (zB 0), .int .u64 (zB 1), .int .u64 (zB 2), .int .u64 (zB 3)] 24)).alloc (.cells #[.int .i64 l0] 3)).alloc (.cells #[.func (.func 167) #[] #[]] 157)) (.cells #[.int .u64 0, .int .u64 0, .int .u64 0, .int .u64 0] 24)
   rw [World.size_alloc, World.size_alloc, World.size_alloc, World.size_alloc] at h
   exact (((show Arr4 _ _ _ (fun _ => 0) from h).alloc _).alloc _)
  ·have h := World.alloc_heap_new (((((w.alloc (.cells #[.int .u64 (zA 0), .int .u64 (zA 1), .int .u64 (zA 2), .int .u64 (zA 3)] 24)).alloc (.cells #[.int .u64 (zB 0), .int .u64 (zB 1), .int .u64 (zB 2), .int .u64 (zB 3)] 24)).alloc (.cells #[.int .i64 l0] 3)).alloc (.cells #[.func (.func 167) #[] #[]] 157)).alloc (.cells #[.int .u64 0, .int .u64 0, .int .u64 0, .int .u64 0] 24)) (.cells #[.int .u64 0, .int .u64 0, .int .u64 0, .int .u64 0] 24)
   rw [World.size_alloc, World.size_alloc, World.size_alloc, World.size_alloc, World.size_alloc] at h
   exact ((show Arr4 _ _ _ (fun _ => 0) from h).alloc _)
  ·have h := Boxed.new ((((((w.alloc (.cells #[.int .u64 (zA 0), .int .u64 (zA 1), .int .u64 (zA 2), .int .u64 (zA 3)] 24)).alloc (.cells #[.int .u64 (zB 0), .int .u64 (zB 1), .int .u64 (zB 2), .int .u64 (zB 3)] 24)).alloc (.cells #[.int .i64 l0] 3)).alloc (.cells #[.func (.func 167) #[] #[]] 157)).alloc (.cells #[.int .u64 0, .int .u64 0, .int .u64 0, .int .u64 0] 24)).alloc (.cells #[.int .u64 0, .int .u64 0, .int .u64 0, .int .u64 0] 24)) 125 (.pointer (some ⟨w.heap.size, 0, none⟩))
   rw [World.size_alloc, World.size_alloc, World.size_alloc, World.size_alloc, World.size_alloc, World.size_alloc] at h
   exact h
 rw [hW0]
 clear hW0
 have hcP := Boxed.cell hJ0.2.2.2.2.2.2
 have hA' : ∀ j, j < 4 → W0.cell? ⟨w.heap.size, j, none⟩ = some (.int .u64 (zA j)) := fun j hj => hJ0.1.cell hj
 refine wpIn_rangeFunc_ownG rfl h1 (gf := 160) (lb := #[.pointer (some ⟨w.heap.size + 1 + 1 + 1 + 1 + 1 + 1, 0, none⟩)]) rfl trivial (enters_of Tryz.func160 (by kernel_rfl) rfl)
  (parts_stops Fence.wide _ trivial rfl (by omega) _ (w.heap.size) zA W0 (by omega) (by omega) hcP hA') KeepsAt.trans (KeepsAt.b (by simp; omega)) (Below.refl _ _) (fun _ => rfl)
  (fun pre W => (JoinIAt w.heap.size zA zB (.func (.func 167) #[] #[]) (madeOf o nx l0 pre (fun _ => 0)) (leftOf nx l0 pre) W ∧ Lb (leftOf nx l0 pre)) ∧ Below w.heap.size w W)
  (fun _ _ _ => False)
  ?hI
  (fun _ _ _ _ _ hs _ _ => hs)
  ⟨⟨hJ0, hL0⟩, hB0⟩
  (fun x => { tmps := #[.agg #[.int .u64 (zA 0), .int .u64 (zA 1), .int .u64 (zA 2), .int .u64 (zA 3)], .agg #[.int .u64 (zB 0), .int .u64 (zB 1), .int .u64 (zB 2), .int .u64 (zB 3)], .int .i64 l0, .func (.func 167) #[] #[], .pointer (some ⟨w.heap.size, 0, none⟩), .pointer (some ⟨w.heap.size + 1, 0, none⟩), .pointer (some ⟨w.heap.size + 1 + 1, 0, none⟩), .pointer (some ⟨w.heap.size + 1 + 1 + 1, 0, none⟩), .pointer (some ⟨w.heap.size + 1 + 1 + 1 + 1, 0, none⟩), .int .i64 0, .pointer (some ⟨w.heap.size + 1 + 1 + 1 + 1 + 1, 0, none⟩), .int .i64 (x.val : Int), .int .u64 (zA x.val), .agg #[.int .u64 0, .int .u64 0, .int .u64 0, .int .u64 0], .func (.func 160) #[] #[.pointer (some ⟨w.heap.size + 1 + 1 + 1 + 1 + 1 + 1, 0, none⟩)], .int .i64 (x.val : Int), .int .u64 (zA x.val), undef, undef, undef, undef, undef, undef, undef, undef, undef, undef, undef, undef, undef, undef], defers := [] }) ?assign ?body ?done ?stop
 case hI => exact OwnFrom.and (OwnFrom.and (Own.from (JoinIAt.own _ _ _ _ _ _) _) (ownFrom_pure _ _)) (ownFrom_below (Nat.le_refl _) (by omega))
 case assign =>
  intro l x W K hK
  gi_wp2
  exact hK
 case body =>
  rintro l pre ⟨k, hk⟩ W ⟨⟨⟨bA, bB, b6, b7, b8, b10, bP⟩, hl⟩, hBw⟩ _
  have hmx : Tryz.prog.follows .mixedOrders = true := by kernel_rfl
  have c6 := b6.cell
  have c7 := b7.cell
  have cB := bB.cell hk
  have f6 := b6.frozen
  have f10 := b10.frozen k
  have c10 := b10.cell hk
  have hk0 : (0 : Int) ≤ (k : Int) := by omega
  have hk4 : (k : Int) < 4 := by omega
  have hr := hrun k hk _ hl
  clear hrun hA' hcP
  have hM := Lib.hid (madeOf_snoc o nx ⟨k, hk⟩ pre l0 (fun _ => 0))
  have hL := Lib.hid (leftOf_snoc nx l0 pre ⟨k, hk⟩)
  have hLb := hLn k hk _ hl
  generalize leftOf nx l0 pre = lx at *
  generalize madeOf o nx l0 pre (fun _ => 0) = mx at *
  have e6 : ∀ x : Ext W, x.w.cell? ⟨w.heap.size + 1 + 1, 0, none⟩ = some (.int .i64 lx) := fun x => (x.cell b6.lt).trans c6
  have e7 : ∀ x : Ext W, x.w.cell? ⟨w.heap.size + 1 + 1 + 1, 0, none⟩ = some (.func (.func 167) #[] #[]) := fun x => (x.cell b7.lt).trans c7
  have eB : ∀ x : Ext W, x.w.cell? ⟨w.heap.size + 1, k, none⟩ = some (.int .u64 (zB k)) := fun x => (x.cell (p := ⟨_, k, none⟩) bB.lt).trans cB
  have e10 : ∀ x : Ext W, x.w.cell? ⟨w.heap.size + 1 + 1 + 1 + 1 + 1, k, none⟩ = some (.int .u64 (mx k)) := fun x => (x.cell (p := ⟨_, k, none⟩) b10.lt).trans c10
  have g6 : ∀ x : Ext W, x.w.frozen? ⟨w.heap.size + 1 + 1, 0, none⟩ = false := fun x => (x.frozen b6.lt).trans f6
  have g10 : ∀ x : Ext W, x.w.frozen? ⟨w.heap.size + 1 + 1 + 1 + 1 + 1, k, none⟩ = false := fun x => (x.frozen (p := ⟨_, k, none⟩) b10.lt).trans f10
  clear c6 c7 cB c10 f6 f10
  gi_wp2
  refine wpIn_region_mix (C := Grows W) (free_round l) [some true, some true, some true, some true, some true, some true, some true, some true, some true, some true, some false, some true, none, none] hmx (by kernel_rfl) (by kernel_rfl) (grows_refl W) ?_
  simp only [headOf, tailOf]
  repeat (go_big_quiet_step (exact Ret.at hr _))
  refine wpQuiet_nil ?_
  rintro _ ⟨x, rfl⟩
  go_wp2
  rw [calmPost_normal]
  refine ⟨((x.keeps _).trans ((KeepsOthers.setCell _ _ _).from _)).trans ((KeepsOthers.setCell _ _ _).from _), ?_, ⟨⟨?_, by rw [hL.out]; exact hLb⟩, ?_⟩⟩
  ·exact (((KeepsAt.refl _ _).below x.below (fun b hb => by simp at hb; have := hBw.size; have := b10.lt; have := bP.lt; omega)).setCell (by simp; omega) _).setCell (by simp; omega) _
  ·rw [hM.out, hL.out]
   have F1 : ∀ {a b : Nat}, a ≠ b → a ≠ b := fun h => h
   exact ⟨Arr4.other (Arr4.other (Arr4.below bA x.below (Arr4.lt bA)) (by first | (simp; done) | (simp; omega)) _) (by first | (simp; done) | (simp; omega)) _, Arr4.other (Arr4.other (Arr4.below bB x.below (Arr4.lt bB)) (by first | (simp; done) | (simp; omega)) _) (by first | (simp; done) | (simp; omega)) _, Boxed.set _ (Boxed.away (Boxed.below b6 x.below (Boxed.lt b6)) (by first | (simp; done) | (simp; omega)) _), Boxed.away (Boxed.away (Boxed.below b7 x.below (Boxed.lt b7)) (by first | (simp; done) | (simp; omega)) _) (by first | (simp; done) | (simp; omega)) _,
    Arr4.other (Arr4.other (Arr4.below b8 x.below (Arr4.lt b8)) (by first | (simp; done) | (simp; omega)) _) (by first | (simp; done) | (simp; omega)) _, Arr4.other (Arr4.set (Arr4.below b10 x.below (Arr4.lt b10)) hk _) (by first | (simp; done) | (simp; omega)) _, Boxed.away (Boxed.away (Boxed.below bP x.below (Boxed.lt bP)) (by first | (simp; done) | (simp; omega)) _) (by first | (simp; done) | (simp; omega)) _⟩
  ·exact ((hBw.trans (x.below.mono hBw.size)).setCell (p := ⟨_, k, none⟩) (by simp; omega) _).setCell (p := ⟨_, 0, none⟩) (by simp; omega) _
 case done =>
  rintro D ys W hD rfl ⟨⟨⟨bA, bB, b6, b7, b8, b10, bP⟩, hl⟩, hBw⟩ hK
  gi_wp2
  have hmx : Tryz.prog.follows .mixedOrders = true := by kernel_rfl
  have c6 := b6.cell
  have c0 := b10.cell (j := 0) (by omega)
  have c1 := b10.cell (j := 1) (by omega)
  have c2 := b10.cell (j := 2) (by omega)
  have c3 := b10.cell (j := 3) (by omega)
  have d0 := b8.cell (j := 0) (by omega)
  have d1 := b8.cell (j := 1) (by omega)
  have d2 := b8.cell (j := 2) (by omega)
  have d3 := b8.cell (j := 3) (by omega)
  have f0 := b8.frozen 0
  have f1 := b8.frozen 1
  have f2 := b8.frozen 2
  have f3 := b8.frozen 3
  clear hrun hA' hcP hJ0 hB0 hL0 hLn hl bA bB
  have b8' : Arr4 ((((W.setCell ⟨w.heap.size + 1 + 1 + 1 + 1, 0, none⟩ (.int .u64 (madeOf o nx l0 [0, 1, 2, 3] (fun _ => 0) 0))).setCell ⟨w.heap.size + 1 + 1 + 1 + 1, 1, none⟩ (.int .u64 (madeOf o nx l0 [0, 1, 2, 3] (fun _ => 0) 1))).setCell ⟨w.heap.size + 1 + 1 + 1 + 1, 2, none⟩ (.int .u64 (madeOf o nx l0 [0, 1, 2, 3] (fun _ => 0) 2))).setCell ⟨w.heap.size + 1 + 1 + 1 + 1, 3, none⟩ (.int .u64 (madeOf o nx l0 [0, 1, 2, 3] (fun _ => 0) 3))) (w.heap.size + 1 + 1 + 1 + 1) 24 (madeOf o nx l0 [0, 1, 2, 3] (fun _ => 0)) := by
   have h := Arr4.set (Arr4.set (Arr4.set (Arr4.set b8 (k := 0) (by omega) (madeOf o nx l0 [0, 1, 2, 3] (fun _ => 0) 0)) (k := 1) (by omega) (madeOf o nx l0 [0, 1, 2, 3] (fun _ => 0) 1)) (k := 2) (by omega) (madeOf o nx l0 [0, 1, 2, 3] (fun _ => 0) 2)) (k := 3) (by omega) (madeOf o nx l0 [0, 1, 2, 3] (fun _ => 0) 3)
   exact h
  have HB8 := Lib.hid b8'
  clear b8'
  gi_region_o
  all_goals gi_wp2
  all_goals
   have hK' := (((((KeepsOthers.setCell W ⟨w.heap.size + 1 + 1 + 1 + 1, 0, none⟩ (.int .u64 (madeOf o nx l0 [0, 1, 2, 3] (fun _ => 0) 0))).trans (KeepsOthers.setCell _ ⟨w.heap.size + 1 + 1 + 1 + 1, 1, none⟩ (.int .u64 (madeOf o nx l0 [0, 1, 2, 3] (fun _ => 0) 1)))).trans (KeepsOthers.setCell _ ⟨w.heap.size + 1 + 1 + 1 + 1, 2, none⟩ (.int .u64 (madeOf o nx l0 [0, 1, 2, 3] (fun _ => 0) 2)))).trans (KeepsOthers.setCell _ ⟨w.heap.size + 1 + 1 + 1 + 1, 3, none⟩ (.int .u64 (madeOf o nx l0 [0, 1, 2, 3] (fun _ => 0) 3)))).trans (KeepsOthers.drew _)).same D _ hK rfl
   have b8 := HB8.out
   have hBf := ((((hBw.setCell (p := ⟨w.heap.size + 1 + 1 + 1 + 1, 0, none⟩) (by simp; omega) (.int .u64 (madeOf o nx l0 [0, 1, 2, 3] (fun _ => 0) 0))).setCell (p := ⟨w.heap.size + 1 + 1 + 1 + 1, 1, none⟩) (by simp; omega) (.int .u64 (madeOf o nx l0 [0, 1, 2, 3] (fun _ => 0) 1))).setCell (p := ⟨w.heap.size + 1 + 1 + 1 + 1, 2, none⟩) (by simp; omega) (.int .u64 (madeOf o nx l0 [0, 1, 2, 3] (fun _ => 0) 2))).setCell (p := ⟨w.heap.size + 1 + 1 + 1 + 1, 3, none⟩) (by simp; omega) (.int .u64 (madeOf o nx l0 [0, 1, 2, 3] (fun _ => 0) 3))).drew
   refine ⟨by simp, .inl ⟨_, _, rfl, run_takeDeferred hK', ?_⟩⟩
   have b9 := Arr4.kept (Arr4.drew b8) (grownBy_putObj' _ D (.deferred none)) (fun e => by cases e; have := (show _ = _ from Arr4.drew b8).symm.trans hK'; cases this)
   have e0 := b9.cell (j := 0) (by omega)
   have e1 := b9.cell (j := 1) (by omega)
   have e2 := b9.cell (j := 2) (by omega)
   have e3 := b9.cell (j := 3) (by omega)
   exact ⟨_, by simp [results, Tryz.f166, go_sem, e0, e1, e2, e3], rfl, hBf.trans (belowK_b (w := w) (Nat.le_refl _) _ D _ _ (by omega) hK' rfl rfl)⟩
 case stop =>
  rintro D c pre W _ _ h _
  exact h.elim
end
section
def lim (n : Nat) : Nat → Int
 | 0 => ((n % 18446744073709551616 : Nat) : Int)
 | 1 => ((n / 18446744073709551616 % 18446744073709551616 : Nat) : Int)
 | 2 => ((n / 340282366920938463463374607431768211456 % 18446744073709551616 : Nat) : Int)
 | _ => ((n / 6277101735386680763835789423207666416102355444464034512896 % 18446744073709551616 : Nat) : Int)
def U64 (x : Int) : Prop := 0 ≤ x ∧ x < 18446744073709551616
def W256 (n : Nat) : Prop := n < 115792089237316195423570985008687907853269984665640564039457584007913129639936
def wmod (n : Nat) : Nat := n % 115792089237316195423570985008687907853269984665640564039457584007913129639936
def num (z : Nat → Int) : Int := z 0 + z 1 * 18446744073709551616 + z 2 * 340282366920938463463374607431768211456 + z 3 * 6277101735386680763835789423207666416102355444464034512896
theorem lim_u64 (n k : Nat) : U64 (lim n k) := by
 unfold U64 lim
 split <;> constructor <;> omega
theorem lim_zero (k : Nat) : lim 0 k = 0 := by unfold lim; split <;> rfl
theorem wmod_lt (n : Nat) : W256 (wmod n) := by unfold W256 wmod; omega
theorem wmod_of {n : Nat} (h : W256 n) : wmod n = n := by unfold W256 at h; unfold wmod; omega
theorem num_lim (n : Nat) (h : W256 n) : num (lim n) = n := by
 unfold W256 at h
 have e1 : n / 340282366920938463463374607431768211456 = n / 18446744073709551616 / 18446744073709551616 := by rw [Nat.div_div_eq_div_mul]
 have e2 : n / 6277101735386680763835789423207666416102355444464034512896 = n / 18446744073709551616 / 18446744073709551616 / 18446744073709551616 := by rw [Nat.div_div_eq_div_mul, Nat.div_div_eq_div_mul]
 unfold num lim
 rw [e1, e2]
 have h4 : n / 18446744073709551616 / 18446744073709551616 / 18446744073709551616 < 18446744073709551616 := by rw [← e2]; exact Nat.div_lt_of_lt_mul h
 generalize h1 : n / 18446744073709551616 = q1 at *
 generalize h2 : q1 / 18446744073709551616 = q2 at *
 generalize h3 : q2 / 18446744073709551616 = q3 at *
 have k0 : n % 18446744073709551616 + 18446744073709551616 * q1 = n := by rw [← h1]; exact Nat.mod_add_div n _
 have k1 : q1 % 18446744073709551616 + 18446744073709551616 * q2 = q1 := by rw [← h2]; exact Nat.mod_add_div q1 _
 have k2 : q2 % 18446744073709551616 + 18446744073709551616 * q3 = q2 := by rw [← h3]; exact Nat.mod_add_div q2 _
 have k3 : q3 % 18446744073709551616 = q3 := Nat.mod_eq_of_lt h4
 rw [k3]
 generalize n % 18446744073709551616 = r0 at *
 generalize q1 % 18446744073709551616 = r1 at *
 generalize q2 % 18446744073709551616 = r2 at *
 clear h e1 e2 h1 h2 h3 h4 k3
 show (r0 : Int) + (r1 : Int) * 18446744073709551616 + (r2 : Int) * 340282366920938463463374607431768211456 + (q3 : Int) * 6277101735386680763835789423207666416102355444464034512896 = n
 omega
theorem modOf (r q n : Nat) (hr : r < 18446744073709551616) (h : r + 18446744073709551616 * q = n) : n % 18446744073709551616 = r ∧ n / 18446744073709551616 = q := by
 subst h
 exact ⟨by rw [Nat.add_mul_mod_self_left]; exact Nat.mod_eq_of_lt hr, by rw [Nat.add_mul_div_left _ _ (by decide), Nat.div_eq_of_lt hr, Nat.zero_add]⟩
theorem lim_num (z : Nat → Int) (n : Nat) (h0 : U64 (z 0)) (h1 : U64 (z 1)) (h2 : U64 (z 2)) (h3 : U64 (z 3)) (h : num z = n) : lim n 0 = z 0 ∧ lim n 1 = z 1 ∧ lim n 2 = z 2 ∧ lim n 3 = z 3 := by
 obtain ⟨z0, e0⟩ := Int.eq_ofNat_of_zero_le h0.1
 obtain ⟨z1, e1⟩ := Int.eq_ofNat_of_zero_le h1.1
 obtain ⟨z2, e2⟩ := Int.eq_ofNat_of_zero_le h2.1
 obtain ⟨z3, e3⟩ := Int.eq_ofNat_of_zero_le h3.1
 have b0 : z0 < 18446744073709551616 := by have := h0.2; rw [e0] at this; omega
 have b1 : z1 < 18446744073709551616 := by have := h1.2; rw [e1] at this; omega
 have b2 : z2 < 18446744073709551616 := by have := h2.2; rw [e2] at this; omega
 have b3 : z3 < 18446744073709551616 := by have := h3.2; rw [e3] at this; omega
 have hn : z0 + 18446744073709551616 * (z1 + 18446744073709551616 * (z2 + 18446744073709551616 * z3)) = n := by
  unfold num at h; rw [e0, e1, e2, e3] at h; omega
 obtain ⟨m0, d0⟩ := modOf _ _ _ b0 hn
 obtain ⟨m1, d1⟩ := modOf _ _ _ b1 rfl
 obtain ⟨m2, d2⟩ := modOf _ _ _ b2 rfl
 have f1 : n / 340282366920938463463374607431768211456 = n / 18446744073709551616 / 18446744073709551616 := by rw [Nat.div_div_eq_div_mul]
 have f2 : n / 6277101735386680763835789423207666416102355444464034512896 = n / 18446744073709551616 / 18446744073709551616 / 18446744073709551616 := by rw [Nat.div_div_eq_div_mul, Nat.div_div_eq_div_mul]
 simp only [lim]
 rw [f1, f2, d0, d1, d2, m0, m1, m2, Nat.mod_eq_of_lt b3, e0, e1, e2, e3]
 exact ⟨rfl, rfl, rfl, rfl⟩
theorem num_lt (z : Nat → Int) (h0 : U64 (z 0)) (h1 : U64 (z 1)) (h2 : U64 (z 2)) (h3 : U64 (z 3)) : 0 ≤ num z ∧ num z < 115792089237316195423570985008687907853269984665640564039457584007913129639936 := by
 unfold U64 at *; unfold num; constructor <;> omega
theorem lim_ext {a b : Nat} (ha : W256 a) (hb : W256 b) (h : ∀ k, k < 4 → lim a k = lim b k) : a = b := by
 have e1 := num_lim a ha
 have e2 := num_lim b hb
 have : num (lim a) = num (lim b) := by unfold num; rw [h 0 (by omega), h 1 (by omega), h 2 (by omega), h 3 (by omega)]
 omega
def addO (a b : Nat) (k : Nat) (l : Int) : Int := (lim a k + lim b k + l) % 18446744073709551616
def addN (a b : Nat) (k : Nat) (l : Int) : Int := (lim a k + lim b k + l) / 18446744073709551616
def subO (a b : Nat) (k : Nat) (l : Int) : Int := (lim a k - lim b k - l) % 18446744073709551616
def subN (a b : Nat) (k : Nat) (l : Int) : Int := if lim a k < lim b k + l then 1 else 0
def Bit (l : Int) : Prop := 0 ≤ l ∧ l ≤ 1
theorem bit_zero : Bit 0 := ⟨by omega, by omega⟩
theorem addN_bit (a b k : Nat) (l : Int) (h : Bit l) : Bit (addN a b k l) := by
 have ha := lim_u64 a k; have hb := lim_u64 b k
 unfold U64 at *; unfold Bit at *; unfold addN; omega
theorem subN_bit (a b k : Nat) (l : Int) : Bit (subN a b k l) := by unfold Bit subN; split <;> omega
theorem addO_u64 (a b k : Nat) (l : Int) : U64 (addO a b k l) := by unfold U64 addO; omega
theorem subO_u64 (a b k : Nat) (l : Int) : U64 (subO a b k l) := by unfold U64 subO; omega
theorem add_step (x y l : Int) : (x + y + l) % 18446744073709551616 + 18446744073709551616 * ((x + y + l) / 18446744073709551616) = x + y + l := Int.emod_add_mul_ediv ..
theorem add_parts (a b : Nat) (ha : W256 a) (hb : W256 b) (z : Nat → Int) (l1 l2 l3 : Int) (h0 : z 0 = addO a b 0 0) (hl1 : l1 = addN a b 0 0) (h1 : z 1 = addO a b 1 l1) (hl2 : l2 = addN a b 1 l1)
  (h2 : z 2 = addO a b 2 l2) (hl3 : l3 = addN a b 2 l2) (h3 : z 3 = addO a b 3 l3) : lim (wmod (a + b)) 0 = z 0 ∧ lim (wmod (a + b)) 1 = z 1 ∧ lim (wmod (a + b)) 2 = z 2 ∧ lim (wmod (a + b)) 3 = z 3 := by
 have u0 : U64 (z 0) := by rw [h0]; exact addO_u64 ..
 have u1 : U64 (z 1) := by rw [h1]; exact addO_u64 ..
 have u2 : U64 (z 2) := by rw [h2]; exact addO_u64 ..
 have u3 : U64 (z 3) := by rw [h3]; exact addO_u64 ..
 refine lim_num z _ u0 u1 u2 u3 ?_
 have ea := num_lim a ha
 have eb := num_lim b hb
 have k0 : z 0 + 18446744073709551616 * l1 = lim a 0 + lim b 0 + 0 := by rw [h0, hl1]; exact add_step ..
 have k1 : z 1 + 18446744073709551616 * l2 = lim a 1 + lim b 1 + l1 := by rw [h1, hl2]; exact add_step ..
 have k2 : z 2 + 18446744073709551616 * l3 = lim a 2 + lim b 2 + l2 := by rw [h2, hl3]; exact add_step ..
 have k3 : z 3 + 18446744073709551616 * addN a b 3 l3 = lim a 3 + lim b 3 + l3 := by rw [h3]; exact add_step ..
 obtain ⟨n0, n1⟩ := num_lt z u0 u1 u2 u3
 have key : num z + 115792089237316195423570985008687907853269984665640564039457584007913129639936 * addN a b 3 l3 = ((a + b : Nat) : Int) := by
  rw [Int.natCast_add, ← ea, ← eb]
  unfold num
  clear ea eb h0 h1 h2 h3 hl1 hl2 hl3 u0 u1 u2 u3 n0 n1
  omega
 unfold wmod
 rw [Int.natCast_emod, ← key]
 generalize num z = t at *
 generalize addN a b 3 l3 = c at *
 show t = (t + 115792089237316195423570985008687907853269984665640564039457584007913129639936 * c) % 115792089237316195423570985008687907853269984665640564039457584007913129639936
 rw [Int.add_mul_emod_self_left, Int.emod_eq_of_lt n0 n1]
def wsub (a b : Nat) : Nat := wmod (a + (115792089237316195423570985008687907853269984665640564039457584007913129639936 - b))
theorem sub_step (x y l : Int) (hx : U64 x) (hy : U64 y) (hl : Bit l) : (x - y - l) % 18446744073709551616 = x - y - l + 18446744073709551616 * (if x < y + l then 1 else 0) := by
 unfold U64 at *; unfold Bit at *
 split <;> omega
theorem sub_parts (a b : Nat) (ha : W256 a) (hb : W256 b) (z : Nat → Int) (l1 l2 l3 : Int) (h0 : z 0 = subO a b 0 0) (hl1 : l1 = subN a b 0 0) (h1 : z 1 = subO a b 1 l1) (hl2 : l2 = subN a b 1 l1)
  (h2 : z 2 = subO a b 2 l2) (hl3 : l3 = subN a b 2 l2) (h3 : z 3 = subO a b 3 l3) : lim (wsub a b) 0 = z 0 ∧ lim (wsub a b) 1 = z 1 ∧ lim (wsub a b) 2 = z 2 ∧ lim (wsub a b) 3 = z 3 := by
 have u0 : U64 (z 0) := by rw [h0]; exact subO_u64 ..
 have u1 : U64 (z 1) := by rw [h1]; exact subO_u64 ..
 have u2 : U64 (z 2) := by rw [h2]; exact subO_u64 ..
 have u3 : U64 (z 3) := by rw [h3]; exact subO_u64 ..
 have v1 : Bit l1 := by rw [hl1]; exact subN_bit ..
 have v2 : Bit l2 := by rw [hl2]; exact subN_bit ..
 have v3 : Bit l3 := by rw [hl3]; exact subN_bit ..
 refine lim_num z _ u0 u1 u2 u3 ?_
 have ea := num_lim a ha
 have eb := num_lim b hb
 have k0 : z 0 = lim a 0 - lim b 0 - 0 + 18446744073709551616 * l1 := by rw [h0, hl1]; exact sub_step _ _ _ (lim_u64 ..) (lim_u64 ..) bit_zero
 have k1 : z 1 = lim a 1 - lim b 1 - l1 + 18446744073709551616 * l2 := by rw [h1, hl2]; exact sub_step _ _ _ (lim_u64 ..) (lim_u64 ..) v1
 have k2 : z 2 = lim a 2 - lim b 2 - l2 + 18446744073709551616 * l3 := by rw [h2, hl3]; exact sub_step _ _ _ (lim_u64 ..) (lim_u64 ..) v2
 have k3 : z 3 = lim a 3 - lim b 3 - l3 + 18446744073709551616 * subN a b 3 l3 := by rw [h3]; exact sub_step _ _ _ (lim_u64 ..) (lim_u64 ..) v3
 obtain ⟨n0, n1⟩ := num_lt z u0 u1 u2 u3
 have key : num z = (a : Int) - b + 115792089237316195423570985008687907853269984665640564039457584007913129639936 * subN a b 3 l3 := by
  rw [← ea, ← eb]
  unfold num
  clear ea eb h0 h1 h2 h3 hl1 hl2 hl3 u0 u1 u2 u3 n0 n1 v1 v2 v3
  omega
 unfold wsub wmod
 rw [Int.natCast_emod, Int.natCast_add, Int.natCast_sub (by unfold W256 at hb; omega)]
 generalize num z = t at *
 generalize subN a b 3 l3 = c at *
 show t = ((a : Int) + (115792089237316195423570985008687907853269984665640564039457584007913129639936 - b)) % 115792089237316195423570985008687907853269984665640564039457584007913129639936
 have e : (a : Int) + (115792089237316195423570985008687907853269984665640564039457584007913129639936 - b) = t + 115792089237316195423570985008687907853269984665640564039457584007913129639936 * (1 - c) := by omega
 rw [e, Int.add_mul_emod_self_left, Int.emod_eq_of_lt n0 n1]
def cmpO (l : Int) (x y : Int) : Int := if x < y then -1 else if y < x then 1 else l
def cmpN (a b : Nat) (k : Nat) (l : Int) : Int := cmpO l (lim a k) (lim b k)
def wcmp (a b : Nat) : Int := if a < b then -1 else if b < a then 1 else 0
theorem cmp_parts (a b : Nat) (ha : W256 a) (hb : W256 b) : cmpN a b 3 (cmpN a b 2 (cmpN a b 1 (cmpN a b 0 0))) = wcmp a b := by
 have ea := num_lim a ha
 have eb := num_lim b hb
 have a0 := lim_u64 a 0; have a1 := lim_u64 a 1; have a2 := lim_u64 a 2; have a3 := lim_u64 a 3
 have b0 := lim_u64 b 0; have b1 := lim_u64 b 1; have b2 := lim_u64 b 2; have b3 := lim_u64 b 3
 unfold num at *; unfold cmpN cmpO wcmp; unfold U64 at *
 generalize lim a 0 = x0 at *; generalize lim a 1 = x1 at *; generalize lim a 2 = x2 at *; generalize lim a 3 = x3 at *
 generalize lim b 0 = y0 at *; generalize lim b 1 = y1 at *; generalize lim b 2 = y2 at *; generalize lim b 3 = y3 at *
 by_cases h3 : x3 < y3
 ·rw [if_pos h3, if_pos (by omega)]
 ·by_cases h3' : y3 < x3
  ·rw [if_neg h3, if_pos h3', if_neg (by omega), if_pos (by omega)]
  ·obtain rfl : x3 = y3 := by omega
   rw [if_neg h3, if_neg h3]
   by_cases h2 : x2 < y2
   ·rw [if_pos h2, if_pos (by omega)]
   ·by_cases h2' : y2 < x2
    ·rw [if_neg h2, if_pos h2', if_neg (by omega), if_pos (by omega)]
    ·obtain rfl : x2 = y2 := by omega
     rw [if_neg h2, if_neg h2]
     by_cases h1 : x1 < y1
     ·rw [if_pos h1, if_pos (by omega)]
     ·by_cases h1' : y1 < x1
      ·rw [if_neg h1, if_pos h1', if_neg (by omega), if_pos (by omega)]
      ·obtain rfl : x1 = y1 := by omega
       rw [if_neg h1, if_neg h1]
       by_cases h0 : x0 < y0
       ·rw [if_pos h0, if_pos (by omega)]
       ·by_cases h0' : y0 < x0
        ·rw [if_neg h0, if_pos h0', if_neg (by omega), if_pos (by omega)]
        ·rw [if_neg h0, if_neg h0', if_neg (by omega), if_neg (by omega)]
end
section
open Go Go.RowKit Go.Shelf
attribute [local go_sem] Oper.semAt_some Grows wide_fn
def wv (n : Nat) : Value := .agg #[.int .u64 (lim n 0), .int .u64 (lim n 1), .int .u64 (lim n 2), .int .u64 (lim n 3)]
theorem wv_of {n : Nat} {x0 x1 x2 x3 : Int} (h : lim n 0 = x0 ∧ lim n 1 = x1 ∧ lim n 2 = x2 ∧ lim n 3 = x3) : wv n = .agg #[.int .u64 x0, .int .u64 x1, .int .u64 x2, .int .u64 x3] := by
 obtain ⟨rfl, rfl, rfl, rfl⟩ := h; rfl
theorem run_addc (x y c : Int) (hx : U64 x) (hy : U64 y) (hc : Bit c) (w : World) : (callFunc 136 #[.int .u64 x, .int .u64 y, .int .u64 c]).run Tryz.prog w =
  .ok (.value (.tuple #[.int .u64 ((x + y + c) % 18446744073709551616), .int .u64 ((x + y + c) / 18446744073709551616)])) w := by
 obtain ⟨x, rfl⟩ := Int.eq_ofNat_of_zero_le hx.1
 obtain ⟨y, rfl⟩ := Int.eq_ofNat_of_zero_le hy.1
 obtain ⟨c, rfl⟩ := Int.eq_ofNat_of_zero_le hc.1
 have h1 := hx.2; have h2 := hy.2; have h3 := hc.2
 rw [run_callFunc_extern Tryz.func136 (by kernel_rfl) (by kernel_rfl) (by kernel_rfl) (e := add64Entry) (by kernel_rfl), run_add64 x y c (by omega) (by omega) (by omega) (by omega)]
 rfl
theorem run_subc (x y b : Int) (hx : U64 x) (hy : U64 y) (hb : Bit b) (w : World) : (callFunc 139 #[.int .u64 x, .int .u64 y, .int .u64 b]).run Tryz.prog w =
  .ok (.value (.tuple #[.int .u64 ((x - y - b) % 18446744073709551616), .int .u64 (if x < y + b then 1 else 0)])) w := by
 obtain ⟨x, rfl⟩ := Int.eq_ofNat_of_zero_le hx.1
 obtain ⟨y, rfl⟩ := Int.eq_ofNat_of_zero_le hy.1
 obtain ⟨b, rfl⟩ := Int.eq_ofNat_of_zero_le hb.1
 have h1 := hx.2; have h2 := hy.2; have h3 := hb.2
 have e1 : (((x + 18446744073709551616 - y - b) % 18446744073709551616 : Nat) : Int) = ((x : Int) - y - b) % 18446744073709551616 := by omega
 have e2 : ((if x < y + b then 1 else 0 : Nat) : Int) = if (x : Int) < y + b then 1 else 0 := by split <;> split <;> omega
 rw [← e1, ← e2]
 rw [run_callFunc_extern Tryz.func139 (by kernel_rfl) (by kernel_rfl) (by kernel_rfl) (e := sub64Entry) (by kernel_rfl), run_sub64 x y b (by omega)]
 rfl
theorem Arr4.word (W : World) (t : TypeId) (n : Nat) : Arr4 (W.alloc (.cells #[.int .u64 (lim n 0), .int .u64 (lim n 1), .int .u64 (lim n 2), .int .u64 (lim n 3)] t)) W.heap.size t (lim n) := World.alloc_heap_new W _
theorem Arr4.store {W : World} {B : Nat} {t : TypeId} {m : Nat → Int} (h : Arr4 W B t m) (m' : Nat → Int) :
  Arr4 ((((W.setCell ⟨B, 0, none⟩ (.int .u64 (m' 0))).setCell ⟨B, 1, none⟩ (.int .u64 (m' 1))).setCell ⟨B, 2, none⟩ (.int .u64 (m' 2))).setCell ⟨B, 3, none⟩ (.int .u64 (m' 3))) B t m' := by
 have h := Arr4.set (Arr4.set (Arr4.set (Arr4.set h (k := 0) (by omega) (m' 0)) (k := 1) (by omega) (m' 1)) (k := 2) (by omega) (m' 2)) (k := 3) (by omega) (m' 3)
 exact h
theorem results_word {fn : Func} {t : Tmp} {tmps : Array Value} {W : World} {B : Nat} {m : Nat → Int} (h : fn.results = #[ResultVar.cell t 24]) (ht : tmps.getD t undef = .pointer (some ⟨B, 0, none⟩)) (hA : Arr4 W B 24 m) :
  (results fn tmps).run Tryz.prog W = .ok (.agg #[.int .u64 (m 0), .int .u64 (m 1), .int .u64 (m 2), .int .u64 (m 3)]) W := by
 have e0 := hA.cell (j := 0) (by omega)
 have e1 := hA.cell (j := 1) (by omega)
 have e2 := hA.cell (j := 2) (by omega)
 have e3 := hA.cell (j := 3) (by omega)
 simp at ht
 simp [results, h, ht, go_sem, e0, e1, e2, e3]
theorem add_ret (a b : Nat) (ha : W256 a) (hb : W256 b) : Ret Tryz.prog 109 #[wv a, wv b] (wv (wmod (a + b))) := by
 intro w
 have hJ := fun W => join_u64 136 (lim a) (lim b) (addO a b) (addN a b) 0 Bit bit_zero (fun k _ l h => addN_bit a b k l h)
  (fun k _ l h W => run_addc _ _ _ (lim_u64 a k) (lim_u64 b k) h W) W
 have hP := add_parts a b ha hb (madeOf (addO a b) (addN a b) 0 [0, 1, 2, 3] (fun _ => 0)) _ _ _ rfl rfl rfl rfl rfl rfl rfl
 rw [wv_of hP]
 have HJ := Lib.hid hJ
 clear hJ hP
 unfold wv
 go_enter Tryz.func109, Tryz.ntmps109
 go_wp2_with fail
 have A1 := ((Arr4.word w 24 a).alloc (.cells #[.int .u64 (lim b 0), .int .u64 (lim b 1), .int .u64 (lim b 2), .int .u64 (lim b 3)] 24)).alloc (.cells #[.int .u64 0, .int .u64 0, .int .u64 0, .int .u64 0] 24)
 have A2 := (Arr4.word (w.alloc (.cells #[.int .u64 (lim a 0), .int .u64 (lim a 1), .int .u64 (lim a 2), .int .u64 (lim a 3)] 24)) 24 b).alloc (.cells #[.int .u64 0, .int .u64 0, .int .u64 0, .int .u64 0] 24)
 have A3 := World.alloc_heap_new ((w.alloc (.cells #[.int .u64 (lim a 0), .int .u64 (lim a 1), .int .u64 (lim a 2), .int .u64 (lim a 3)] 24)).alloc (.cells #[.int .u64 (lim b 0), .int .u64 (lim b 1), .int .u64 (lim b 2), .int .u64 (lim b 3)] 24)) (.cells #[.int .u64 0, .int .u64 0, .int .u64 0, .int .u64 0] 24)
 have B0 := (((Below.refl _ w).alloc (Nat.le_refl _) (.cells #[.int .u64 (lim a 0), .int .u64 (lim a 1), .int .u64 (lim a 2), .int .u64 (lim a 3)] 24)).alloc (by simp) (.cells #[.int .u64 (lim b 0), .int .u64 (lim b 1), .int .u64 (lim b 2), .int .u64 (lim b 3)] 24)).alloc (by simp; omega) (.cells #[.int .u64 0, .int .u64 0, .int .u64 0, .int .u64 0] 24)
 rw [World.size_alloc] at A2 A3
 rw [World.size_alloc] at A3
 refine (HJ.out _).mono ?_
 rintro e w1 ⟨rfl, hb1⟩
 have A4 : Arr4 w1 (w.heap.size + 1 + 1) 24 (fun _ => 0) := Arr4.below (m := fun _ => 0) A3 hb1 (by simp)
 have BB := B0.trans (hb1.mono B0.size)
 have hz : w.heap.size ≤ w1.heap.size := BB.size
 have hz2 := A4.lt
 have c0 := A4.cell (j := 0) (by omega)
 have c1 := A4.cell (j := 1) (by omega)
 have c2 := A4.cell (j := 2) (by omega)
 have c3 := A4.cell (j := 3) (by omega)
 have f0 := A4.frozen 0
 have f1 := A4.frozen 1
 have f2 := A4.frozen 2
 have f3 := A4.frozen 3
 replace A4 := Lib.hid A4
 clear A1 A2 A3 B0 hb1 HJ
 go_wp2
 refine bodyPost_ret (results_word rfl rfl ((A4.out.store _).alloc _)) rfl ⟨rfl, ?_⟩
 (repeat (first | exact BB | refine Below.setCell ?_ (by first | omega | (simp; done) | (simp; omega)) _ | refine Below.alloc ?_ (by first | omega | (simp; done) | (simp; omega)) _ | refine Below.drew ?_))
theorem sub_ret (a b : Nat) (ha : W256 a) (hb : W256 b) : Ret Tryz.prog 111 #[wv a, wv b] (wv (wsub a b)) := by
 intro w
 have hJ := fun W => join_u64 139 (lim a) (lim b) (subO a b) (subN a b) 0 Bit bit_zero (fun k _ l _ => subN_bit a b k l)
  (fun k _ l h W => run_subc _ _ _ (lim_u64 a k) (lim_u64 b k) h W) W
 have hP := sub_parts a b ha hb (madeOf (subO a b) (subN a b) 0 [0, 1, 2, 3] (fun _ => 0)) _ _ _ rfl rfl rfl rfl rfl rfl rfl
 rw [wv_of hP]
 have HJ := Lib.hid hJ
 clear hJ hP
 unfold wv
 go_enter Tryz.func111, Tryz.ntmps111
 go_wp2_with fail
 have A1 := ((Arr4.word w 24 a).alloc (.cells #[.int .u64 (lim b 0), .int .u64 (lim b 1), .int .u64 (lim b 2), .int .u64 (lim b 3)] 24)).alloc (.cells #[.int .u64 0, .int .u64 0, .int .u64 0, .int .u64 0] 24)
 have A2 := (Arr4.word (w.alloc (.cells #[.int .u64 (lim a 0), .int .u64 (lim a 1), .int .u64 (lim a 2), .int .u64 (lim a 3)] 24)) 24 b).alloc (.cells #[.int .u64 0, .int .u64 0, .int .u64 0, .int .u64 0] 24)
 have A3 := World.alloc_heap_new ((w.alloc (.cells #[.int .u64 (lim a 0), .int .u64 (lim a 1), .int .u64 (lim a 2), .int .u64 (lim a 3)] 24)).alloc (.cells #[.int .u64 (lim b 0), .int .u64 (lim b 1), .int .u64 (lim b 2), .int .u64 (lim b 3)] 24)) (.cells #[.int .u64 0, .int .u64 0, .int .u64 0, .int .u64 0] 24)
 have B0 := (((Below.refl _ w).alloc (Nat.le_refl _) (.cells #[.int .u64 (lim a 0), .int .u64 (lim a 1), .int .u64 (lim a 2), .int .u64 (lim a 3)] 24)).alloc (by simp) (.cells #[.int .u64 (lim b 0), .int .u64 (lim b 1), .int .u64 (lim b 2), .int .u64 (lim b 3)] 24)).alloc (by simp; omega) (.cells #[.int .u64 0, .int .u64 0, .int .u64 0, .int .u64 0] 24)
 rw [World.size_alloc] at A2 A3
 rw [World.size_alloc] at A3
 refine (HJ.out _).mono ?_
 rintro e w1 ⟨rfl, hb1⟩
 have A4 : Arr4 w1 (w.heap.size + 1 + 1) 24 (fun _ => 0) := Arr4.below (m := fun _ => 0) A3 hb1 (by simp)
 have BB := B0.trans (hb1.mono B0.size)
 have hz : w.heap.size ≤ w1.heap.size := BB.size
 have hz2 := A4.lt
 have c0 := A4.cell (j := 0) (by omega)
 have c1 := A4.cell (j := 1) (by omega)
 have c2 := A4.cell (j := 2) (by omega)
 have c3 := A4.cell (j := 3) (by omega)
 have f0 := A4.frozen 0
 have f1 := A4.frozen 1
 have f2 := A4.frozen 2
 have f3 := A4.frozen 3
 replace A4 := Lib.hid A4
 clear A1 A2 A3 B0 hb1 HJ
 go_wp2
 refine bodyPost_ret (results_word rfl rfl ((A4.out.store _).alloc _)) rfl ⟨rfl, ?_⟩
 (repeat (first | exact BB | refine Below.setCell ?_ (by first | omega | (simp; done) | (simp; omega)) _ | refine Below.alloc ?_ (by first | omega | (simp; done) | (simp; omega)) _ | refine Below.drew ?_))
theorem compare_ret (x y : Int) : Ret Tryz.prog 169 #[.int .u64 x, .int .u64 y] (.int .i64 (cmpO 0 x y)) := by
 intro w
 by_cases h1 : x < y
 ·have e : cmpO 0 x y = -1 := by unfold cmpO; rw [if_pos h1]
  rw [e]; clear e
  go_enter Tryz.func169, Tryz.ntmps169
  go_wp2
  go_ret
  exact ⟨rfl, Below.refl _ _⟩
 ·by_cases h2 : y < x
  ·have e : cmpO 0 x y = 1 := by unfold cmpO; rw [if_neg h1, if_pos h2]
   rw [e]; clear e
   go_enter Tryz.func169, Tryz.ntmps169
   go_wp2
   go_ret
   exact ⟨rfl, Below.refl _ _⟩
  ·have e : cmpO 0 x y = 0 := by unfold cmpO; rw [if_neg h1, if_neg h2]
   rw [e]; clear e
   go_enter Tryz.func169, Tryz.ntmps169
   go_wp2
   go_ret
   exact ⟨rfl, Below.refl _ _⟩
def orOf (a b : Int) : Int := if a = 0 then b else a
theorem or_int (a b : Int) (g cap : Nat) (w : World) (h0 : w.cell? ⟨g, 0, none⟩ = some (.int .i64 a)) (h1 : w.cell? ⟨g, 1, none⟩ = some (.int .i64 b)) :
  Calls Tryz.prog 168 #[.slice (some ⟨g, 0, none⟩) 2 cap] w fun e w' => e = .returned (.int .i64 (orOf a b)) ∧ w = w' := by
 have hz : Hid (a = 0 → orOf a b = b) := fun h => by unfold orOf; rw [if_pos h]
 have hn : Hid (a ≠ 0 → orOf a b = a) := fun h => by unfold orOf; rw [if_neg h]
 go_enter Tryz.func168, Tryz.ntmps168
 go_wp2
 go_loop [8] (fun i => ∃ k : Nat, k ≤ 2 ∧ i = .int .i64 k ∧ (0 < k → a = 0) ∧ (1 < k → b = 0)) (fun i => 2 - (intOf i).toNat)
 case atStart => exact ⟨0, by omega, rfl, fun h => by omega, fun h => by omega⟩
 case round =>
  obtain ⟨k, hk, rfl, ha, hb⟩ := hrel
  by_cases k0 : k = 0
  ·subst k0
   clear ha hb
   by_cases e : a = 0
   ·have et : (a != 0) = false := by simp [e]
    have HE := Lib.hid e
    clear e
    go_wp2
    go_round
    case rel => exact ⟨1, by omega, by simp, fun _ => HE.out, fun h => by omega⟩
    case measure => simp [intOf]
   ·have et : (a != 0) = true := by simp [e]
    have HE := Lib.hid e
    clear e
    go_wp2
    go_ret
    exact ⟨by rw [hn.out HE.out]; rfl, rfl⟩
  ·by_cases k1 : k = 1
   ·subst k1
    have HA : Hid (a = 0) := ha (by omega)
    clear ha hb
    by_cases e : b = 0
    ·have et : (b != 0) = false := by simp [e]
     have HE := Lib.hid e
     clear e
     go_wp2
     go_round
     case rel => exact ⟨2, by omega, by simp, fun _ => HA.out, fun _ => HE.out⟩
     case measure => simp [intOf]
    ·have et : (b != 0) = true := by simp [e]
     have HE := Lib.hid e
     clear e
     go_wp2
     go_ret
     exact ⟨by rw [hz.out HA.out]; rfl, rfl⟩
   ·obtain rfl : k = 2 := by omega
    have HA : Hid (a = 0) := ha (by omega)
    have HB : Hid (b = 0) := hb (by omega)
    clear ha hb
    go_wp2
    go_ret
    exact ⟨by rw [hz.out HA.out, HB.out]; rfl, rfl⟩
theorem pair_ret (x y l : Int) : Ret Tryz.prog 167 #[.int .u64 x, .int .u64 y, .int .i64 l] (.tuple #[.int .u64 0, .int .i64 (orOf (cmpO 0 x y) l)]) := by
 intro w
 go_enter Tryz.func167, Tryz.ntmps167
 go_wp2_with fail
 refine (compare_ret x y w).mono ?_
 rintro e w1 ⟨rfl, hb1⟩
 go_wp2_with fail
 refine (or_int (cmpO 0 x y) l _ _ _ (by go_simp) (by go_simp)).mono ?_
 rintro e w2 ⟨rfl, rfl⟩
 go_wp2
 go_ret2
 exact ⟨rfl, hb1.alloc hb1.size _⟩
theorem orOf_cmp (x y l : Int) : orOf (cmpO 0 x y) l = cmpO l x y := by
 unfold orOf cmpO
 by_cases h1 : x < y
 ·simp [h1]
 ·by_cases h2 : y < x
  ·simp [h1, h2]
  ·simp [h1, h2]
theorem cmp_ret (a b : Nat) (ha : W256 a) (hb : W256 b) : Ret Tryz.prog 148 #[wv a, wv b] (.int .i64 (wcmp a b)) := by
 intro w
 have hJ := fun W => join_int (lim a) (lim b) (fun _ _ => 0) (cmpN a b) 0 (fun _ => True) trivial (fun _ _ _ _ => trivial)
  (fun k _ l _ => by have h := pair_ret (lim a k) (lim b k) l; rw [orOf_cmp] at h; exact h) W
 have hP := cmp_parts a b ha hb
 have hL : leftOf (cmpN a b) 0 [0, 1, 2, 3] = wcmp a b := hP
 rw [hL] at hJ
 have HJ := Lib.hid hJ
 clear hJ hP hL
 unfold wv
 go_enter Tryz.func148, Tryz.ntmps148
 go_wp2_with fail
 have A1 := (Arr4.word w 24 a).alloc (.cells #[.int .u64 (lim b 0), .int .u64 (lim b 1), .int .u64 (lim b 2), .int .u64 (lim b 3)] 24)
 have A2 := Arr4.word (w.alloc (.cells #[.int .u64 (lim a 0), .int .u64 (lim a 1), .int .u64 (lim a 2), .int .u64 (lim a 3)] 24)) 24 b
 have B0 := ((Below.refl _ w).alloc (Nat.le_refl _) (.cells #[.int .u64 (lim a 0), .int .u64 (lim a 1), .int .u64 (lim a 2), .int .u64 (lim a 3)] 24)).alloc (by simp) (.cells #[.int .u64 (lim b 0), .int .u64 (lim b 1), .int .u64 (lim b 2), .int .u64 (lim b 3)] 24)
 rw [World.size_alloc] at A2
 refine (HJ.out _).mono ?_
 rintro e w1 ⟨rfl, hb1⟩
 have BB := B0.trans (hb1.mono B0.size)
 have hz : w.heap.size ≤ w1.heap.size := BB.size
 clear A1 A2 B0 hb1 HJ
 go_wp2
 go_ret
 exact ⟨rfl, by (repeat (first | exact BB | refine Below.setCell ?_ (by first | omega | (simp; done) | (simp; omega)) _ | refine Below.alloc ?_ (by first | omega | (simp; done) | (simp; omega)) _ | refine Below.drew ?_))⟩
theorem mul64_any (x y : Nat) (hx : x < 18446744073709551616) (hy : y < 18446744073709551616) (w : World) :
  Calls Tryz.prog 177 #[.int .u64 x, .int .u64 y] w fun e w' => e = .returned (.tuple #[.int .u64 ((x * y / 18446744073709551616 : Nat) : Int), .int .u64 ((x * y % 18446744073709551616 : Nat) : Int)]) ∧ w = w' := by
 obtain ⟨bd, bt, bw, hhi⟩ := Lib.mul64_hi x y hx hy
 have ba := Lib.half_mul_le (a := x / 4294967296) (b := y / 4294967296) (by omega) (by omega)
 have bb := Lib.half_mul_le (a := x / 4294967296) (b := y % 4294967296) (by omega) (by omega)
 have bc := Lib.half_mul_le (a := x % 4294967296) (b := y / 4294967296) (by omega) (by omega)
 have ba' : x / 4294967296 * (y / 4294967296) < 18446744073709551616 := by omega
 have bb' : x / 4294967296 * (y % 4294967296) < 18446744073709551616 := by omega
 have bc' : x % 4294967296 * (y / 4294967296) < 18446744073709551616 := by omega
 have bh1 : x / 4294967296 * (y / 4294967296) + (x / 4294967296 * (y % 4294967296) + x % 4294967296 * (y % 4294967296) / 4294967296) / 4294967296 < 18446744073709551616 := by omega
 have bh : x / 4294967296 * (y / 4294967296) + (x / 4294967296 * (y % 4294967296) + x % 4294967296 * (y % 4294967296) / 4294967296) / 4294967296 + ((x / 4294967296 * (y % 4294967296) + x % 4294967296 * (y % 4294967296) / 4294967296) % 4294967296 + x % 4294967296 * (y / 4294967296)) / 4294967296 < 18446744073709551616 := by omega
 go_enter Tryz.func177, Tryz.ntmps177
 go_wp2
 simp only [Mul64.maskN x hx, Mul64.maskN y hy, Mul64.divN, Mul64.mulN, Mul64.addN, Mul64.wrapN _ bd, Mul64.wrapN _ bb', Mul64.wrapN _ bt, Mul64.maskN _ bt, Mul64.wrapN _ bc', Mul64.wrapN _ bw, Mul64.wrapN _ ba', Mul64.wrapN _ bh1, Mul64.wrapN _ bh, Mul64.wrapM (x * y)]
 rw [hhi]
 go_ret2
 exact ⟨rfl, rfl⟩
def tpLo (x y p q : Int) : Int := (x * y + p + q) % 18446744073709551616
def tpHi (x y p q : Int) : Int := (x * y + p + q) / 18446744073709551616
theorem tp_bound (x y p q : Int) (hx : U64 x) (hy : U64 y) (hp : U64 p) (hq : U64 q) : U64 (tpLo x y p q) ∧ U64 (tpHi x y p q) := by
 unfold U64 tpLo tpHi at *
 have h1 : 0 ≤ x * y := Int.mul_nonneg hx.1 hy.1
 have h2 : x * y ≤ 18446744073709551615 * 18446744073709551615 := Int.mul_le_mul (by omega) (by omega) hy.1 (by omega)
 generalize x * y = t at *
 omega
theorem tp_join (x y p q : Int) (hx : U64 x) (hy : U64 y) (hp : U64 p) (_hq : U64 q) :
  ((x * y % 18446744073709551616 + p) % 18446744073709551616 + q) % 18446744073709551616 = tpLo x y p q ∧
  x * y / 18446744073709551616 + (x * y % 18446744073709551616 + p) / 18446744073709551616 + ((x * y % 18446744073709551616 + p) % 18446744073709551616 + q) / 18446744073709551616 = tpHi x y p q ∧
  U64 (x * y / 18446744073709551616 + (x * y % 18446744073709551616 + p) / 18446744073709551616) ∧ U64 (x * y % 18446744073709551616) ∧ U64 ((x * y % 18446744073709551616 + p) % 18446744073709551616) ∧ U64 (x * y / 18446744073709551616) := by
 unfold U64 tpLo tpHi at *
 have h1 : 0 ≤ x * y := Int.mul_nonneg hx.1 hy.1
 have h2 : x * y ≤ 18446744073709551615 * 18446744073709551615 := Int.mul_le_mul (by omega) (by omega) hy.1 (by omega)
 generalize x * y = t at *
 omega
theorem timesPlus_any (x y p q : Int) (hx : U64 x) (hy : U64 y) (hp : U64 p) (hq : U64 q) (w : World) :
  Calls Tryz.prog 161 #[.int .u64 x, .int .u64 y, .int .u64 p, .int .u64 q] w fun e w' => e = .returned (.tuple #[.int .u64 (tpLo x y p q), .int .u64 (tpHi x y p q)]) ∧ w = w' := by
 obtain ⟨e1, e2, u1, u2, u3, u4⟩ := tp_join x y p q hx hy hp hq
 obtain ⟨b1, b2⟩ := tp_bound x y p q hx hy hp hq
 have hm : ∀ w, Calls Tryz.prog 177 #[.int .u64 x, .int .u64 y] w fun e w' => e = .returned (.tuple #[.int .u64 (x * y / 18446744073709551616), .int .u64 (x * y % 18446744073709551616)]) ∧ w = w' := by
  intro w
  obtain ⟨x, rfl⟩ := Int.eq_ofNat_of_zero_le hx.1
  obtain ⟨y, rfl⟩ := Int.eq_ofNat_of_zero_le hy.1
  exact mul64_any x y (by have := hx.2; omega) (by have := hy.2; omega) w
 rw [← e2]
 rw [← e2] at b2
 rw [← e1]
 clear e1 e2 b1
 generalize x * y / 18446744073709551616 = hi at *
 generalize x * y % 18446744073709551616 = lo at *
 have r1 := fun W => run_addc lo p 0 u2 hp bit_zero W
 have r2 := fun W => run_addc ((lo + p) % 18446744073709551616) q 0 u3 hq bit_zero W
 simp only [Int.add_zero] at r1 r2
 generalize (lo + p) % 18446744073709551616 = s1 at *
 generalize (lo + p) / 18446744073709551616 = c1 at *
 generalize (s1 + q) % 18446744073709551616 = s2 at *
 generalize (s1 + q) / 18446744073709551616 = c2 at *
 have w1 : IntKind.u64.wrap (hi + c1) = hi + c1 := by rw [IntKind.wrap_u64]; unfold U64 at u1; omega
 have w2 : IntKind.u64.wrap (hi + c1 + c2) = hi + c1 + c2 := by rw [IntKind.wrap_u64]; unfold U64 at b2; omega
 have HM := Lib.hid hm
 clear hm u1 u2 u3 u4 b2 hx hy hp hq
 go_enter Tryz.func161, Tryz.ntmps161
 go_wp2_with fail
 refine (HM.out _).mono ?_
 rintro e w' ⟨rfl, rfl⟩
 go_wp2
 go_ret2
 exact ⟨rfl, rfl⟩
end
section
open Go Go.RowKit
theorem grown_of_below {w W : World} (h : Below w.heap.size w W) (row : Option Nat) : w.grownBy W row := ⟨h.os, h.tape, h.output, h.size, fun k hk _ => h.block k hk⟩
theorem grown_then_below {w A B : World} {row : Option Nat} (h : w.grownBy A row) (hb : Below A.heap.size A B) : w.grownBy B row :=
 ⟨hb.os.trans h.os, hb.tape.trans h.tape, hb.output.trans h.output, Nat.le_trans h.size hb.size, fun k hk hne => (hb.block k (Nat.lt_of_lt_of_le hk h.size)).trans (h.block k hk hne)⟩
theorem grown_set {w A : World} {S : Nat} (h : w.grownBy A (some S)) {p : Addr} (hp : p.block = S ∨ w.heap.size ≤ p.block) (u : Value) : w.grownBy (A.setCell p u) (some S) :=
 ⟨h.os, h.tape, h.output, by simpa [World.setCell] using h.size, fun k hk hne => (Below.heap_setCell A p u k (fun e => by
  rcases hp with hp | hp
  ·exact hne (by rw [e, hp])
  ·omega)).trans (h.block k hk hne)⟩
theorem grown_putObj {w A : World} {row : Option Nat} (h : w.grownBy A row) {l : Nat} (hl : w.heap.size ≤ l) (o : Obj) : w.grownBy (A.putObj l o) row :=
 ⟨h.os, h.tape, h.output, by simpa using h.size, fun k hk hne => (World.putObj_heap_other (by omega)).trans (h.block k hk hne)⟩
end
end Go.Proofs.YtnkhmgmganejmaaGreatDoor
