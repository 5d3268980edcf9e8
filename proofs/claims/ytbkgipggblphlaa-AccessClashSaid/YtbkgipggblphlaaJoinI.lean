/- join, with an order left over: two words, part by part. Condition: what the pair's function answers for the parts. -/
import Derived.Test.YtbkgipggblphlaaJoin
namespace Go.Proofs.Ytbkgipggblphlaa
open Go Go.RowKit Go.Shelf
attribute [local go_sem] Oper.semAt_some Grows wide_fn

/-- What the call's own blocks hold between two rounds. -/
def JoinIAt (H : Nat) (zA zB : Nat → Int) (fv : Value) (m : Nat → Int) (l : Int) (W : World) : Prop :=
  Arr4 W H 29 zA ∧ Arr4 W (H + 1) 29 zB ∧ Boxed W (H + 1 + 1) 3 (.int .i64 l) ∧ Boxed W (H + 1 + 1 + 1) 73 fv ∧
    Arr4 W (H + 1 + 1 + 1 + 1) 29 (fun _ => 0) ∧ Arr4 W (H + 1 + 1 + 1 + 1 + 1) 29 m ∧ Boxed W (H + 1 + 1 + 1 + 1 + 1 + 1) 88 (.pointer (some ⟨H, 0, none⟩))
theorem JoinIAt.own {β : Type} (H : Nat) (zA zB : Nat → Int) (fv : Value) (m : β → Nat → Int) (l : β → Int) : Own (fun s W => JoinIAt H zA zB fv (m s) (l s) W) := fun s X Y row hs hg hr =>
  ⟨Arr4.own H _ (fun _ : β => zA) s X Y row hs.1 hg hr, Arr4.own (H + 1) _ (fun _ : β => zB) s X Y row hs.2.1 hg hr, boxed_own (H + 1 + 1) _ (fun s : β => Value.int .i64 (l s)) s X Y row hs.2.2.1 hg hr, boxed_own (H + 1 + 1 + 1) _ (fun _ : β => fv) s X Y row hs.2.2.2.1 hg hr,
    Arr4.own (H + 1 + 1 + 1 + 1) _ (fun _ : β => fun _ => 0) s X Y row hs.2.2.2.2.1 hg hr, Arr4.own (H + 1 + 1 + 1 + 1 + 1) _ m s X Y row hs.2.2.2.2.2.1 hg hr, boxed_own (H + 1 + 1 + 1 + 1 + 1 + 1) _ (fun _ : β => _) s X Y row hs.2.2.2.2.2.2 hg hr⟩

set_option maxRecDepth 100000 in
set_option maxHeartbeats 2000000 in
theorem join_int (zA zB : Nat → Int) (o nx : Nat → Int → Int) (l0 : Int) (Lb : Int → Prop) (hL0 : Lb l0) (hLn : ∀ k, k < 4 → ∀ l, Lb l → Lb (nx k l))
    (hrun : ∀ k, k < 4 → ∀ l, Lb l → Ret Try.prog 45 #[.int .u64 (zA k), .int .u64 (zB k), .int .i64 l] (.tuple #[.int .u64 (o k l), .int .i64 (nx k l)]))
    (w : World) :
    Calls Try.prog 44 #[.agg #[.int .u64 (zA 0), .int .u64 (zA 1), .int .u64 (zA 2), .int .u64 (zA 3)], .agg #[.int .u64 (zB 0), .int .u64 (zB 1), .int .u64 (zB 2), .int .u64 (zB 3)], .int .i64 l0, .func (.func 45) #[] #[]] w fun e w' =>
      e = .returned (.tuple #[.agg #[.int .u64 (madeOf o nx l0 [0, 1, 2, 3] (fun _ => 0) 0), .int .u64 (madeOf o nx l0 [0, 1, 2, 3] (fun _ => 0) 1), .int .u64 (madeOf o nx l0 [0, 1, 2, 3] (fun _ => 0) 2), .int .u64 (madeOf o nx l0 [0, 1, 2, 3] (fun _ => 0) 3)], .int .i64 (leftOf nx l0 [0, 1, 2, 3])]) ∧ Below w.heap.size w w' := by
  have h1 : 1 ≤ 3 := by omega
  refine (callsIn_wide (n := 3)).1 ?_
  refine callsIn_of_wp_marks Try.func44 rfl trivial ?_ rfl
  simp only [Try.ntmps44, List.size_toArray, List.length_cons, List.length_nil, Nat.reduceAdd, Nat.reduceSub, Array.replicate_succ, Array.replicate_zero, List.push_toArray, List.append_toArray, List.nil_append, List.cons_append]
  gi_wp2_with (gi_at_call 60; refine (callsIn_free free_wide (parts_any _ _)).mono ?_; rintro e w' ⟨rfl, rfl⟩)
  obtain ⟨W0, hW0⟩ : ∃ W0, (((((((w.alloc (.cells #[.int .u64 (zA 0), .int .u64 (zA 1), .int .u64 (zA 2), .int .u64 (zA 3)] 29)).alloc (.cells #[.int .u64 (zB 0), .int .u64 (zB 1), .int .u64 (zB 2), .int .u64 (zB 3)] 29)).alloc (.cells #[.int .i64 l0] 3)).alloc (.cells #[.func (.func 45) #[] #[]] 73)).alloc (.cells #[.int .u64 0, .int .u64 0, .int .u64 0, .int .u64 0] 29)).alloc (.cells #[.int .u64 0, .int .u64 0, .int .u64 0, .int .u64 0] 29)).alloc (.cells #[.pointer (some ⟨w.heap.size, 0, none⟩)] 88)) = W0 := ⟨_, rfl⟩
  have hB0 : Below w.heap.size w W0 := by
    rw [← hW0]; exact (((((((Below.refl _ w).alloc (by first | exact Nat.le_refl _ | (simp; done) | (simp; omega)) _).alloc (by first | exact Nat.le_refl _ | (simp; done) | (simp; omega)) _).alloc (by first | exact Nat.le_refl _ | (simp; done) | (simp; omega)) _).alloc (by first | exact Nat.le_refl _ | (simp; done) | (simp; omega)) _).alloc (by first | exact Nat.le_refl _ | (simp; done) | (simp; omega)) _).alloc (by first | exact Nat.le_refl _ | (simp; done) | (simp; omega)) _).alloc (by first | exact Nat.le_refl _ | (simp; done) | (simp; omega)) _
  have hsz : W0.heap.size = w.heap.size + 7 := by rw [← hW0]; simp
  have hJ0 : JoinIAt w.heap.size zA zB (.func (.func 45) #[] #[]) (fun _ => 0) l0 W0 := by
    rw [← hW0]
    refine ⟨?_, ?_, ?_, ?_, ?_, ?_, ?_⟩
    · have h := World.alloc_heap_new w (.cells #[.int .u64 (zA 0), .int .u64 (zA 1), .int .u64 (zA 2), .int .u64 (zA 3)] 29)
      exact (((((((show Arr4 _ _ _ zA from h).alloc _).alloc _).alloc _).alloc _).alloc _).alloc _)
    · have h := World.alloc_heap_new (w.alloc (.cells #[.int .u64 (zA 0), .int .u64 (zA 1), .int .u64 (zA 2), .int .u64 (zA 3)] 29)) (.cells #[.int .u64 (zB 0), .int .u64 (zB 1), .int .u64 (zB 2), .int .u64 (zB 3)] 29)
      rw [World.size_alloc] at h
      exact ((((((show Arr4 _ _ _ zB from h).alloc _).alloc _).alloc _).alloc _).alloc _)
    · have h := Boxed.new ((w.alloc (.cells #[.int .u64 (zA 0), .int .u64 (zA 1), .int .u64 (zA 2), .int .u64 (zA 3)] 29)).alloc (.cells #[.int .u64 (zB 0), .int .u64 (zB 1), .int .u64 (zB 2), .int .u64 (zB 3)] 29)) 3 (.int .i64 l0)
      rw [World.size_alloc, World.size_alloc] at h
      exact ((((h.alloc _).alloc _).alloc _).alloc _)
    · have h := Boxed.new (((w.alloc (.cells #[.int .u64 (zA 0), .int .u64 (zA 1), .int .u64 (zA 2), .int .u64 (zA 3)] 29)).alloc (.cells #[.int .u64 (zB 0), .int .u64 (zB 1), .int .u64 (zB 2), .int .u64 (zB 3)] 29)).alloc (.cells #[.int .i64 l0] 3)) 73 (.func (.func 45) #[] #[])
      rw [World.size_alloc, World.size_alloc, World.size_alloc] at h
      exact (((h.alloc _).alloc _).alloc _)
    · have h := World.alloc_heap_new ((((w.alloc (.cells #[.int .u64 (zA 0), .int .u64 (zA 1), .int .u64 (zA 2), .int .u64 (zA 3)] 29)).alloc (.cells #[.int .u64 (zB 0), .int .u64 (zB 1), .int .u64 (zB 2), .int .u64 (zB 3)] 29)).alloc (.cells #[.int .i64 l0] 3)).alloc (.cells #[.func (.func 45) #[] #[]] 73)) (.cells #[.int .u64 0, .int .u64 0, .int .u64 0, .int .u64 0] 29)
      rw [World.size_alloc, World.size_alloc, World.size_alloc, World.size_alloc] at h
      exact (((show Arr4 _ _ _ (fun _ => 0) from h).alloc _).alloc _)
    · have h := World.alloc_heap_new (((((w.alloc (.cells #[.int .u64 (zA 0), .int .u64 (zA 1), .int .u64 (zA 2), .int .u64 (zA 3)] 29)).alloc (.cells #[.int .u64 (zB 0), .int .u64 (zB 1), .int .u64 (zB 2), .int .u64 (zB 3)] 29)).alloc (.cells #[.int .i64 l0] 3)).alloc (.cells #[.func (.func 45) #[] #[]] 73)).alloc (.cells #[.int .u64 0, .int .u64 0, .int .u64 0, .int .u64 0] 29)) (.cells #[.int .u64 0, .int .u64 0, .int .u64 0, .int .u64 0] 29)
      rw [World.size_alloc, World.size_alloc, World.size_alloc, World.size_alloc, World.size_alloc] at h
      exact ((show Arr4 _ _ _ (fun _ => 0) from h).alloc _)
    · have h := Boxed.new ((((((w.alloc (.cells #[.int .u64 (zA 0), .int .u64 (zA 1), .int .u64 (zA 2), .int .u64 (zA 3)] 29)).alloc (.cells #[.int .u64 (zB 0), .int .u64 (zB 1), .int .u64 (zB 2), .int .u64 (zB 3)] 29)).alloc (.cells #[.int .i64 l0] 3)).alloc (.cells #[.func (.func 45) #[] #[]] 73)).alloc (.cells #[.int .u64 0, .int .u64 0, .int .u64 0, .int .u64 0] 29)).alloc (.cells #[.int .u64 0, .int .u64 0, .int .u64 0, .int .u64 0] 29)) 88 (.pointer (some ⟨w.heap.size, 0, none⟩))
      rw [World.size_alloc, World.size_alloc, World.size_alloc, World.size_alloc, World.size_alloc, World.size_alloc] at h
      exact h
  rw [hW0]
  clear hW0
  have hcP := Boxed.cell hJ0.2.2.2.2.2.2
  have hA' : ∀ j, j < 4 → W0.cell? ⟨w.heap.size, j, none⟩ = some (.int .u64 (zA j)) := fun j hj => hJ0.1.cell hj
  refine wpIn_rangeFunc_ownG rfl h1 (gf := 65) (lb := #[.pointer (some ⟨w.heap.size + 1 + 1 + 1 + 1 + 1 + 1, 0, none⟩)]) rfl trivial (enters_of Try.func65 (by kernel_rfl) rfl)
    (parts_stops Fence.wide _ trivial rfl (by omega) _ (w.heap.size) zA W0 (by omega) (by omega) hcP hA') KeepsAt.trans (KeepsAt.b (by simp; omega)) (Below.refl _ _) (fun _ => rfl)
    (fun pre W => (JoinIAt w.heap.size zA zB (.func (.func 45) #[] #[]) (madeOf o nx l0 pre (fun _ => 0)) (leftOf nx l0 pre) W ∧ Lb (leftOf nx l0 pre)) ∧ Below w.heap.size w W)
    (fun _ _ _ => False)
    ?hI
    (fun _ _ _ _ _ hs _ _ => hs)
    ⟨⟨hJ0, hL0⟩, hB0⟩
    (fun x => { tmps := #[.agg #[.int .u64 (zA 0), .int .u64 (zA 1), .int .u64 (zA 2), .int .u64 (zA 3)], .agg #[.int .u64 (zB 0), .int .u64 (zB 1), .int .u64 (zB 2), .int .u64 (zB 3)], .int .i64 l0, .func (.func 45) #[] #[], .pointer (some ⟨w.heap.size, 0, none⟩), .pointer (some ⟨w.heap.size + 1, 0, none⟩), .pointer (some ⟨w.heap.size + 1 + 1, 0, none⟩), .pointer (some ⟨w.heap.size + 1 + 1 + 1, 0, none⟩), .pointer (some ⟨w.heap.size + 1 + 1 + 1 + 1, 0, none⟩), .int .i64 0, .pointer (some ⟨w.heap.size + 1 + 1 + 1 + 1 + 1, 0, none⟩), .int .i64 (x.val : Int), .int .u64 (zA x.val), .agg #[.int .u64 0, .int .u64 0, .int .u64 0, .int .u64 0], .func (.func 65) #[] #[.pointer (some ⟨w.heap.size + 1 + 1 + 1 + 1 + 1 + 1, 0, none⟩)], .int .i64 (x.val : Int), .int .u64 (zA x.val), undef, undef, undef, undef, undef, undef, undef, undef, undef, undef, undef, undef, undef, undef], defers := [] }) ?assign ?body ?done ?stop
  case hI => exact OwnFrom.and (OwnFrom.and (Own.from (JoinIAt.own _ _ _ _ _ _) _) (ownFrom_pure _ _)) (ownFrom_below (Nat.le_refl _) (by omega))
  case assign =>
    intro l x W K hK
    gi_wp2
    exact hK
  case body =>
    rintro l pre ⟨k, hk⟩ W ⟨⟨⟨bA, bB, b6, b7, b8, b10, bP⟩, hl⟩, hBw⟩ _
    have hmx : Try.prog.follows .mixedOrders = true := by kernel_rfl
    have c6 := b6.cell
    have c7 := b7.cell
    have cB := bB.cell hk
    have f6 := b6.frozen
    have f10 := b10.frozen k
    have c10 := b10.cell hk
    have hk0 : (0 : Int) ≤ (k : Int) := by omega
    have hk4 : (k : Int) < 4 := by omega
    have hr := hrun k hk _ hl
    clear hrun hA' hcP
    have hM := Lib.hid (madeOf_snoc o nx ⟨k, hk⟩ pre l0 (fun _ => 0))
    have hL := Lib.hid (leftOf_snoc nx l0 pre ⟨k, hk⟩)
    have hLb := hLn k hk _ hl
    generalize leftOf nx l0 pre = lx at *
    generalize madeOf o nx l0 pre (fun _ => 0) = mx at *
    have e6 : ∀ x : Ext W, x.w.cell? ⟨w.heap.size + 1 + 1, 0, none⟩ = some (.int .i64 lx) := fun x => (x.cell b6.lt).trans c6
    have e7 : ∀ x : Ext W, x.w.cell? ⟨w.heap.size + 1 + 1 + 1, 0, none⟩ = some (.func (.func 45) #[] #[]) := fun x => (x.cell b7.lt).trans c7
    have eB : ∀ x : Ext W, x.w.cell? ⟨w.heap.size + 1, k, none⟩ = some (.int .u64 (zB k)) := fun x => (x.cell (p := ⟨_, k, none⟩) bB.lt).trans cB
    have e10 : ∀ x : Ext W, x.w.cell? ⟨w.heap.size + 1 + 1 + 1 + 1 + 1, k, none⟩ = some (.int .u64 (mx k)) := fun x => (x.cell (p := ⟨_, k, none⟩) b10.lt).trans c10
    have g6 : ∀ x : Ext W, x.w.frozen? ⟨w.heap.size + 1 + 1, 0, none⟩ = false := fun x => (x.frozen b6.lt).trans f6
    have g10 : ∀ x : Ext W, x.w.frozen? ⟨w.heap.size + 1 + 1 + 1 + 1 + 1, k, none⟩ = false := fun x => (x.frozen (p := ⟨_, k, none⟩) b10.lt).trans f10
    clear c6 c7 cB c10 f6 f10
    gi_wp2
    refine wpIn_region_mix (C := Grows W) (free_round l) [some true, some true, some true, some true, some true, some true, some true, some true, some true, some true, some false, some true, none, none] hmx (by kernel_rfl) (by kernel_rfl) (grows_refl W) ?_
    simp only [headOf, tailOf]
    repeat (go_big_quiet_step (exact Ret.at hr _))
    refine wpQuiet_nil ?_
    rintro _ ⟨x, rfl⟩
    go_wp2
    rw [calmPost_normal]
    refine ⟨((x.keeps _).trans ((KeepsOthers.setCell _ _ _).from _)).trans ((KeepsOthers.setCell _ _ _).from _), ?_, ⟨⟨?_, by rw [hL.out]; exact hLb⟩, ?_⟩⟩
    · exact (((KeepsAt.refl _ _).below x.below (fun b hb => by simp at hb; have := hBw.size; have := b10.lt; have := bP.lt; omega)).setCell (by simp; omega) _).setCell (by simp; omega) _
    · rw [hM.out, hL.out]
      have F1 : ∀ {a b : Nat}, a ≠ b → a ≠ b := fun h => h
      exact ⟨Arr4.other (Arr4.other (Arr4.below bA x.below (Arr4.lt bA)) (by first | (simp; done) | (simp; omega)) _) (by first | (simp; done) | (simp; omega)) _, Arr4.other (Arr4.other (Arr4.below bB x.below (Arr4.lt bB)) (by first | (simp; done) | (simp; omega)) _) (by first | (simp; done) | (simp; omega)) _, Boxed.set _ (Boxed.away (Boxed.below b6 x.below (Boxed.lt b6)) (by first | (simp; done) | (simp; omega)) _), Boxed.away (Boxed.away (Boxed.below b7 x.below (Boxed.lt b7)) (by first | (simp; done) | (simp; omega)) _) (by first | (simp; done) | (simp; omega)) _,
        Arr4.other (Arr4.other (Arr4.below b8 x.below (Arr4.lt b8)) (by first | (simp; done) | (simp; omega)) _) (by first | (simp; done) | (simp; omega)) _, Arr4.other (Arr4.set (Arr4.below b10 x.below (Arr4.lt b10)) hk _) (by first | (simp; done) | (simp; omega)) _, Boxed.away (Boxed.away (Boxed.below bP x.below (Boxed.lt bP)) (by first | (simp; done) | (simp; omega)) _) (by first | (simp; done) | (simp; omega)) _⟩
    · exact ((hBw.trans (x.below.mono hBw.size)).setCell (p := ⟨_, k, none⟩) (by simp; omega) _).setCell (p := ⟨_, 0, none⟩) (by simp; omega) _
  case done =>
    rintro D ys W hD rfl ⟨⟨⟨bA, bB, b6, b7, b8, b10, bP⟩, hl⟩, hBw⟩ hK
    gi_wp2
    have hmx : Try.prog.follows .mixedOrders = true := by kernel_rfl
    have c6 := b6.cell
    have c0 := b10.cell (j := 0) (by omega)
    have c1 := b10.cell (j := 1) (by omega)
    have c2 := b10.cell (j := 2) (by omega)
    have c3 := b10.cell (j := 3) (by omega)
    have d0 := b8.cell (j := 0) (by omega)
    have d1 := b8.cell (j := 1) (by omega)
    have d2 := b8.cell (j := 2) (by omega)
    have d3 := b8.cell (j := 3) (by omega)
    have f0 := b8.frozen 0
    have f1 := b8.frozen 1
    have f2 := b8.frozen 2
    have f3 := b8.frozen 3
    clear hrun hA' hcP hJ0 hB0 hL0 hLn hl bA bB
    have b8' : Arr4 ((((W.setCell ⟨w.heap.size + 1 + 1 + 1 + 1, 0, none⟩ (.int .u64 (madeOf o nx l0 [0, 1, 2, 3] (fun _ => 0) 0))).setCell ⟨w.heap.size + 1 + 1 + 1 + 1, 1, none⟩ (.int .u64 (madeOf o nx l0 [0, 1, 2, 3] (fun _ => 0) 1))).setCell ⟨w.heap.size + 1 + 1 + 1 + 1, 2, none⟩ (.int .u64 (madeOf o nx l0 [0, 1, 2, 3] (fun _ => 0) 2))).setCell ⟨w.heap.size + 1 + 1 + 1 + 1, 3, none⟩ (.int .u64 (madeOf o nx l0 [0, 1, 2, 3] (fun _ => 0) 3))) (w.heap.size + 1 + 1 + 1 + 1) 29 (madeOf o nx l0 [0, 1, 2, 3] (fun _ => 0)) := by
      have h := Arr4.set (Arr4.set (Arr4.set (Arr4.set b8 (k := 0) (by omega) (madeOf o nx l0 [0, 1, 2, 3] (fun _ => 0) 0)) (k := 1) (by omega) (madeOf o nx l0 [0, 1, 2, 3] (fun _ => 0) 1)) (k := 2) (by omega) (madeOf o nx l0 [0, 1, 2, 3] (fun _ => 0) 2)) (k := 3) (by omega) (madeOf o nx l0 [0, 1, 2, 3] (fun _ => 0) 3)
      exact h
    have HB8 := Lib.hid b8'
    clear b8'
    gi_region_o
    all_goals gi_wp2
    all_goals
      have hK' := (((((KeepsOthers.setCell W ⟨w.heap.size + 1 + 1 + 1 + 1, 0, none⟩ (.int .u64 (madeOf o nx l0 [0, 1, 2, 3] (fun _ => 0) 0))).trans (KeepsOthers.setCell _ ⟨w.heap.size + 1 + 1 + 1 + 1, 1, none⟩ (.int .u64 (madeOf o nx l0 [0, 1, 2, 3] (fun _ => 0) 1)))).trans (KeepsOthers.setCell _ ⟨w.heap.size + 1 + 1 + 1 + 1, 2, none⟩ (.int .u64 (madeOf o nx l0 [0, 1, 2, 3] (fun _ => 0) 2)))).trans (KeepsOthers.setCell _ ⟨w.heap.size + 1 + 1 + 1 + 1, 3, none⟩ (.int .u64 (madeOf o nx l0 [0, 1, 2, 3] (fun _ => 0) 3)))).trans (KeepsOthers.drew _)).same D _ hK rfl
      have b8 := HB8.out
      have hBf := ((((hBw.setCell (p := ⟨w.heap.size + 1 + 1 + 1 + 1, 0, none⟩) (by simp; omega) (.int .u64 (madeOf o nx l0 [0, 1, 2, 3] (fun _ => 0) 0))).setCell (p := ⟨w.heap.size + 1 + 1 + 1 + 1, 1, none⟩) (by simp; omega) (.int .u64 (madeOf o nx l0 [0, 1, 2, 3] (fun _ => 0) 1))).setCell (p := ⟨w.heap.size + 1 + 1 + 1 + 1, 2, none⟩) (by simp; omega) (.int .u64 (madeOf o nx l0 [0, 1, 2, 3] (fun _ => 0) 2))).setCell (p := ⟨w.heap.size + 1 + 1 + 1 + 1, 3, none⟩) (by simp; omega) (.int .u64 (madeOf o nx l0 [0, 1, 2, 3] (fun _ => 0) 3))).drew
      refine ⟨by simp, .inl ⟨_, _, rfl, run_takeDeferred hK', ?_⟩⟩
      have b9 := Arr4.kept (Arr4.drew b8) (grownBy_putObj' _ D (.deferred none)) (fun e => by cases e; have := (show _ = _ from Arr4.drew b8).symm.trans hK'; cases this)
      have e0 := b9.cell (j := 0) (by omega)
      have e1 := b9.cell (j := 1) (by omega)
      have e2 := b9.cell (j := 2) (by omega)
      have e3 := b9.cell (j := 3) (by omega)
      exact ⟨_, by simp [results, Try.f44, go_sem, e0, e1, e2, e3], rfl, hBf.trans (belowK_b (w := w) (Nat.le_refl _) _ D _ _ (by omega) hK' rfl rfl)⟩
  case stop =>
    rintro D c pre W _ _ h _
    exact h.elim
end Go.Proofs.Ytbkgipggblphlaa
