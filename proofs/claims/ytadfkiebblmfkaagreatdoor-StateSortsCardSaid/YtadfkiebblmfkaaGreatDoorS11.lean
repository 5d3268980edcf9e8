import Derived.Test.YtadfkiebblmfkaaGreatDoorS10
import Derived.BigRegion
import Derived.Deep.AppendSrc
import Derived.Laws.AppendOwn
import Derived.Test.YtadfkiebblmfkaaGreatDoorS02
import Derived.Laws.MakeOwn
import Derived.OwnWalkIn
/- What is wanted of a pair. Conditions: none. -/
namespace Go.Proofs.YtadfkiebblmfkaaGreatDoor
open Go Go.RowKit
attribute [local go_sem] Oper.semAt_some Grows wide_fn eq4

/-- A call that tells what is wanted of a pair. -/
def WantOK (f : FuncId) (wt : Pr → Option Nat) : Prop := ∀ (W : World) (p : Pr), W256 p.fst → W256 p.snd → Calls Tryz.prog f #[prV p] W fun e w' => ∃ v b, e = .returned (.tuple #[wv v, .bool b]) ∧ W256 v ∧ wt p = (if b = true then some v else none) ∧ Below W.heap.size W w'
theorem nz_bool (a b c d : Int) : ((!(a == 0)) || (!(b == 0)) || (!(c == 0)) || (!(d == 0))) = !(a == 0 && b == 0 && c == 0 && d == 0) := by simp [Bool.not_and]
theorem results_wb {fn : Func} {t u : Tmp} {tmps : Array Value} {W : World} {B : Nat} {v0 v1 v2 v3 : Value} (h : fn.results = #[ResultVar.cell t 28, ResultVar.tmp u]) (ht : tmps.getD t undef = .pointer (some ⟨B, 0, none⟩)) (hA : Has W B 28 #[v0, v1, v2, v3]) :
    (results fn tmps).run Tryz.prog W = .ok (.tuple #[.agg #[v0, v1, v2, v3], tmps.getD u undef]) W := by
  have e0 := hA.cell 0 _ rfl
  have e1 := hA.cell 1 _ rfl
  have e2 := hA.cell 2 _ rfl
  have e3 := hA.cell 3 _ rfl
  simp at ht
  simp [results, h, ht, go_sem, e0, e1, e2, e3]
set_option maxRecDepth 100000 in
set_option maxHeartbeats 4000000 in
theorem behind_ok : WantOK 149 behindF := by
  intro W p hf hs
  obtain ⟨k, fst, snd, ins⟩ := p
  simp only at hf hs
  have hmx : Tryz.prog.follows .mixedOrders = true := by kernel_rfl
  have hz1 := zero_w fst hf
  have hz2 := zero_w snd hs
  cases ins
  · have HB := Lib.hid (show W256 fst ∧ behindF ⟨k, fst, snd, false⟩ = (if ((!(lim fst 0 == 0)) || (!(lim fst 1 == 0)) || (!(lim fst 2 == 0)) || (!(lim fst 3 == 0))) = true then some fst else none) from ⟨hf, by
      rw [nz_bool, hz1]
      unfold behindF
      by_cases h0 : fst = 0 <;> simp [h0]⟩)
    have hfin := Lib.hid (show ∀ X, Below W.heap.size W X → ∃ v b, Ending.returned (.tuple #[.agg #[.int .u64 (lim fst 0), .int .u64 (lim fst 1), .int .u64 (lim fst 2), .int .u64 (lim fst 3)], .bool ((!(lim fst 0 == 0)) || (!(lim fst 1 == 0)) || (!(lim fst 2 == 0)) || (!(lim fst 3 == 0)))]) = .returned (.tuple #[wv v, .bool b]) ∧ W256 v ∧ behindF ⟨k, fst, snd, false⟩ = (if b = true then some v else none) ∧ Below W.heap.size W X from fun X hX => ⟨fst, _, rfl, HB.out.1, HB.out.2, hX⟩)
    obtain ⟨Post, hPost⟩ : ∃ Post : Ending → World → Prop, (fun (e : Ending) (w' : World) => ∃ v b, e = .returned (.tuple #[wv v, .bool b]) ∧ W256 v ∧ behindF ⟨k, fst, snd, false⟩ = (if b = true then some v else none) ∧ Below W.heap.size W w') = Post := ⟨_, rfl⟩
    replace hfin := Lib.hid (show ∀ X, Below W.heap.size W X → Post (.returned (.tuple #[.agg #[.int .u64 (lim fst 0), .int .u64 (lim fst 1), .int .u64 (lim fst 2), .int .u64 (lim fst 3)], .bool ((!(lim fst 0 == 0)) || (!(lim fst 1 == 0)) || (!(lim fst 2 == 0)) || (!(lim fst 3 == 0)))])) X by rw [← hPost]; exact hfin.out)
    rw [hPost]
    clear hPost HB hz1 hz2 hf hs
    unfold prV
    simp only
    generalize lim fst 0 = f0 at *
    generalize lim snd 0 = s0 at *
    generalize lim fst 1 = f1 at *
    generalize lim snd 1 = s1 at *
    generalize lim fst 2 = f2 at *
    generalize lim snd 2 = s2 at *
    generalize lim fst 3 = f3 at *
    generalize lim snd 3 = s3 at *
    have LP := ((Has.new W 193 #[.int .u64 f0, .int .u64 f1, .int .u64 f2, .int .u64 f3, .int .u64 s0, .int .u64 s1, .int .u64 s2, .int .u64 s3, .bool false]).alloc (.cells #[.int .u64 0, .int .u64 0, .int .u64 0, .int .u64 0] 28)).alloc (.cells #[.int .u64 f0, .int .u64 f1, .int .u64 f2, .int .u64 f3] 28)
    have LR := (Has.new (W.alloc (.cells #[.int .u64 f0, .int .u64 f1, .int .u64 f2, .int .u64 f3, .int .u64 s0, .int .u64 s1, .int .u64 s2, .int .u64 s3, .bool false] 193)) 28 #[.int .u64 0, .int .u64 0, .int .u64 0, .int .u64 0]).alloc (.cells #[.int .u64 f0, .int .u64 f1, .int .u64 f2, .int .u64 f3] 28)
    have LP0 := (Has.new W 193 #[.int .u64 f0, .int .u64 f1, .int .u64 f2, .int .u64 f3, .int .u64 s0, .int .u64 s1, .int .u64 s2, .int .u64 s3, .bool false]).alloc (.cells #[.int .u64 0, .int .u64 0, .int .u64 0, .int .u64 0] 28)
    have LP1 := LP0.alloc (.cells #[.int .u64 0, .int .u64 0, .int .u64 0, .int .u64 0] 28)
    have NV := Has.new ((W.alloc (.cells #[.int .u64 f0, .int .u64 f1, .int .u64 f2, .int .u64 f3, .int .u64 s0, .int .u64 s1, .int .u64 s2, .int .u64 s3, .bool false] 193)).alloc (.cells #[.int .u64 0, .int .u64 0, .int .u64 0, .int .u64 0] 28)) 28 #[.int .u64 0, .int .u64 0, .int .u64 0, .int .u64 0]
    have LV := Has.new ((W.alloc (.cells #[.int .u64 f0, .int .u64 f1, .int .u64 f2, .int .u64 f3, .int .u64 s0, .int .u64 s1, .int .u64 s2, .int .u64 s3, .bool false] 193)).alloc (.cells #[.int .u64 0, .int .u64 0, .int .u64 0, .int .u64 0] 28)) 28 #[.int .u64 f0, .int .u64 f1, .int .u64 f2, .int .u64 f3]
    simp only [World.size_alloc] at LR NV LV
    have QQ := (((Below.refl W.heap.size W).alloc (Nat.le_refl _) (.cells #[.int .u64 f0, .int .u64 f1, .int .u64 f2, .int .u64 f3, .int .u64 s0, .int .u64 s1, .int .u64 s2, .int .u64 s3, .bool false] 193)).alloc (by simp) (.cells #[.int .u64 0, .int .u64 0, .int .u64 0, .int .u64 0] 28)).alloc (by simp; omega) (.cells #[.int .u64 f0, .int .u64 f1, .int .u64 f2, .int .u64 f3] 28)
    have a0 := LP0.cell 0 _ rfl
    have n0 := NV.cell 0 _ rfl
    have nf0 := NV.frozen 0
    have v0 := LV.cell 0 _ rfl
    have vf0 := LV.frozen 0
    have a1 := LP0.cell 1 _ rfl
    have n1 := NV.cell 1 _ rfl
    have nf1 := NV.frozen 1
    have v1 := LV.cell 1 _ rfl
    have vf1 := LV.frozen 1
    have a2 := LP0.cell 2 _ rfl
    have n2 := NV.cell 2 _ rfl
    have nf2 := NV.frozen 2
    have v2 := LV.cell 2 _ rfl
    have vf2 := LV.frozen 2
    have a3 := LP0.cell 3 _ rfl
    have n3 := NV.cell 3 _ rfl
    have nf3 := NV.frozen 3
    have v3 := LV.cell 3 _ rfl
    have vf3 := LV.frozen 3
    have a8 := LP.cell 8 _ rfl
    replace LP := Lib.hid LP
    replace LP0 := Lib.hid LP0
    replace LP1 := Lib.hid LP1
    replace LR := Lib.hid LR
    replace NV := Lib.hid NV
    replace LV := Lib.hid LV
    replace QQ := Lib.hid QQ
    go_enter Tryz.func149, Tryz.ntmps149
    go_wp2_with fail
    clear a0 n0 nf0 v0 vf0 a1 n1 nf1 v1 vf1 a2 n2 nf2 v2 vf2 a3 n3 nf3 v3 vf3 a8 LP LP0 LP1 NV LV LR QQ
    have LR := (Has.new (W.alloc (.cells #[.int .u64 f0, .int .u64 f1, .int .u64 f2, .int .u64 f3, .int .u64 s0, .int .u64 s1, .int .u64 s2, .int .u64 s3, .bool false] 193)) 28 #[.int .u64 0, .int .u64 0, .int .u64 0, .int .u64 0]).alloc (.cells #[.int .u64 f0, .int .u64 f1, .int .u64 f2, .int .u64 f3] 28)
    have LV := Has.new ((W.alloc (.cells #[.int .u64 f0, .int .u64 f1, .int .u64 f2, .int .u64 f3, .int .u64 s0, .int .u64 s1, .int .u64 s2, .int .u64 s3, .bool false] 193)).alloc (.cells #[.int .u64 0, .int .u64 0, .int .u64 0, .int .u64 0] 28)) 28 #[.int .u64 f0, .int .u64 f1, .int .u64 f2, .int .u64 f3]
    simp only [World.size_alloc] at LR LV
    have QQ := (((Below.refl W.heap.size W).alloc (Nat.le_refl _) (.cells #[.int .u64 f0, .int .u64 f1, .int .u64 f2, .int .u64 f3, .int .u64 s0, .int .u64 s1, .int .u64 s2, .int .u64 s3, .bool false] 193)).alloc (by simp) (.cells #[.int .u64 0, .int .u64 0, .int .u64 0, .int .u64 0] 28)).alloc (by simp; omega) (.cells #[.int .u64 f0, .int .u64 f1, .int .u64 f2, .int .u64 f3] 28)
    obtain ⟨W2, hW2⟩ : ∃ W2, ((W.alloc (.cells #[.int .u64 f0, .int .u64 f1, .int .u64 f2, .int .u64 f3, .int .u64 s0, .int .u64 s1, .int .u64 s2, .int .u64 s3, .bool false] 193)).alloc (.cells #[.int .u64 0, .int .u64 0, .int .u64 0, .int .u64 0] 28)).alloc (.cells #[.int .u64 f0, .int .u64 f1, .int .u64 f2, .int .u64 f3] 28) = W2 := ⟨_, rfl⟩
    rw [hW2] at LR LV QQ ⊢
    clear hW2
    have LR2 := Lib.hid ((((LR.set 0 (.int .u64 f0)).set 1 (.int .u64 f1)).set 2 (.int .u64 f2)).set 3 (.int .u64 f3))
    have QQ2 := Lib.hid ((((QQ.setCell (p := ⟨(W.heap.size + 1), 0, none⟩) (by simp) (.int .u64 f0)).setCell (p := ⟨(W.heap.size + 1), 1, none⟩) (by simp) (.int .u64 f1)).setCell (p := ⟨(W.heap.size + 1), 2, none⟩) (by simp) (.int .u64 f2)).setCell (p := ⟨(W.heap.size + 1), 3, none⟩) (by simp) (.int .u64 f3))
    have x0 := LR.cell 0 _ rfl
    have f0' := LR.frozen 0
    have y0 := LV.cell 0 _ rfl
    have x1 := LR.cell 1 _ rfl
    have f1' := LR.frozen 1
    have y1 := LV.cell 1 _ rfl
    have x2 := LR.cell 2 _ rfl
    have f2' := LR.frozen 2
    have y2 := LV.cell 2 _ rfl
    have x3 := LR.cell 3 _ rfl
    have f3' := LR.frozen 3
    have y3 := LV.cell 3 _ rfl
    replace LR := Lib.hid LR
    replace LV := Lib.hid LV
    replace QQ := Lib.hid QQ
    go_region
    all_goals (go_wp2_with fail)
    all_goals (refine bodyPost_ret (results_wb rfl rfl LR2.out) rfl ?_)
    all_goals (exact hfin.out _ QQ2.out.drew)
  · have HB := Lib.hid (show W256 snd ∧ behindF ⟨k, fst, snd, true⟩ = (if ((!(lim snd 0 == 0)) || (!(lim snd 1 == 0)) || (!(lim snd 2 == 0)) || (!(lim snd 3 == 0))) = true then some snd else none) from ⟨hs, by
      rw [nz_bool, hz2]
      unfold behindF
      by_cases h0 : snd = 0 <;> simp [h0]⟩)
    have hfin := Lib.hid (show ∀ X, Below W.heap.size W X → ∃ v b, Ending.returned (.tuple #[.agg #[.int .u64 (lim snd 0), .int .u64 (lim snd 1), .int .u64 (lim snd 2), .int .u64 (lim snd 3)], .bool ((!(lim snd 0 == 0)) || (!(lim snd 1 == 0)) || (!(lim snd 2 == 0)) || (!(lim snd 3 == 0)))]) = .returned (.tuple #[wv v, .bool b]) ∧ W256 v ∧ behindF ⟨k, fst, snd, true⟩ = (if b = true then some v else none) ∧ Below W.heap.size W X from fun X hX => ⟨snd, _, rfl, HB.out.1, HB.out.2, hX⟩)
    obtain ⟨Post, hPost⟩ : ∃ Post : Ending → World → Prop, (fun (e : Ending) (w' : World) => ∃ v b, e = .returned (.tuple #[wv v, .bool b]) ∧ W256 v ∧ behindF ⟨k, fst, snd, true⟩ = (if b = true then some v else none) ∧ Below W.heap.size W w') = Post := ⟨_, rfl⟩
    replace hfin := Lib.hid (show ∀ X, Below W.heap.size W X → Post (.returned (.tuple #[.agg #[.int .u64 (lim snd 0), .int .u64 (lim snd 1), .int .u64 (lim snd 2), .int .u64 (lim snd 3)], .bool ((!(lim snd 0 == 0)) || (!(lim snd 1 == 0)) || (!(lim snd 2 == 0)) || (!(lim snd 3 == 0)))])) X by rw [← hPost]; exact hfin.out)
    rw [hPost]
    clear hPost HB hz1 hz2 hf hs
    unfold prV
    simp only
    generalize lim fst 0 = f0 at *
    generalize lim snd 0 = s0 at *
    generalize lim fst 1 = f1 at *
    generalize lim snd 1 = s1 at *
    generalize lim fst 2 = f2 at *
    generalize lim snd 2 = s2 at *
    generalize lim fst 3 = f3 at *
    generalize lim snd 3 = s3 at *
    have LP := ((Has.new W 193 #[.int .u64 f0, .int .u64 f1, .int .u64 f2, .int .u64 f3, .int .u64 s0, .int .u64 s1, .int .u64 s2, .int .u64 s3, .bool true]).alloc (.cells #[.int .u64 0, .int .u64 0, .int .u64 0, .int .u64 0] 28)).alloc (.cells #[.int .u64 f0, .int .u64 f1, .int .u64 f2, .int .u64 f3] 28)
    have LR := (Has.new (W.alloc (.cells #[.int .u64 f0, .int .u64 f1, .int .u64 f2, .int .u64 f3, .int .u64 s0, .int .u64 s1, .int .u64 s2, .int .u64 s3, .bool true] 193)) 28 #[.int .u64 0, .int .u64 0, .int .u64 0, .int .u64 0]).alloc (.cells #[.int .u64 f0, .int .u64 f1, .int .u64 f2, .int .u64 f3] 28)
    have LP0 := (Has.new W 193 #[.int .u64 f0, .int .u64 f1, .int .u64 f2, .int .u64 f3, .int .u64 s0, .int .u64 s1, .int .u64 s2, .int .u64 s3, .bool true]).alloc (.cells #[.int .u64 0, .int .u64 0, .int .u64 0, .int .u64 0] 28)
    have LP1 := LP0.alloc (.cells #[.int .u64 0, .int .u64 0, .int .u64 0, .int .u64 0] 28)
    have NV := Has.new ((W.alloc (.cells #[.int .u64 f0, .int .u64 f1, .int .u64 f2, .int .u64 f3, .int .u64 s0, .int .u64 s1, .int .u64 s2, .int .u64 s3, .bool true] 193)).alloc (.cells #[.int .u64 0, .int .u64 0, .int .u64 0, .int .u64 0] 28)) 28 #[.int .u64 0, .int .u64 0, .int .u64 0, .int .u64 0]
    have LV := Has.new ((W.alloc (.cells #[.int .u64 f0, .int .u64 f1, .int .u64 f2, .int .u64 f3, .int .u64 s0, .int .u64 s1, .int .u64 s2, .int .u64 s3, .bool true] 193)).alloc (.cells #[.int .u64 0, .int .u64 0, .int .u64 0, .int .u64 0] 28)) 28 #[.int .u64 f0, .int .u64 f1, .int .u64 f2, .int .u64 f3]
    simp only [World.size_alloc] at LR NV LV
    have QQ := (((Below.refl W.heap.size W).alloc (Nat.le_refl _) (.cells #[.int .u64 f0, .int .u64 f1, .int .u64 f2, .int .u64 f3, .int .u64 s0, .int .u64 s1, .int .u64 s2, .int .u64 s3, .bool true] 193)).alloc (by simp) (.cells #[.int .u64 0, .int .u64 0, .int .u64 0, .int .u64 0] 28)).alloc (by simp; omega) (.cells #[.int .u64 f0, .int .u64 f1, .int .u64 f2, .int .u64 f3] 28)
    have a0 := LP0.cell 0 _ rfl
    have n0 := NV.cell 0 _ rfl
    have nf0 := NV.frozen 0
    have v0 := LV.cell 0 _ rfl
    have vf0 := LV.frozen 0
    have a1 := LP0.cell 1 _ rfl
    have n1 := NV.cell 1 _ rfl
    have nf1 := NV.frozen 1
    have v1 := LV.cell 1 _ rfl
    have vf1 := LV.frozen 1
    have a2 := LP0.cell 2 _ rfl
    have n2 := NV.cell 2 _ rfl
    have nf2 := NV.frozen 2
    have v2 := LV.cell 2 _ rfl
    have vf2 := LV.frozen 2
    have a3 := LP0.cell 3 _ rfl
    have n3 := NV.cell 3 _ rfl
    have nf3 := NV.frozen 3
    have v3 := LV.cell 3 _ rfl
    have vf3 := LV.frozen 3
    have a4 := LP.cell 4 _ rfl
    have a5 := LP.cell 5 _ rfl
    have a6 := LP.cell 6 _ rfl
    have a7 := LP.cell 7 _ rfl
    have a8 := LP.cell 8 _ rfl
    replace LP := Lib.hid LP
    replace LP0 := Lib.hid LP0
    replace LP1 := Lib.hid LP1
    replace LR := Lib.hid LR
    replace NV := Lib.hid NV
    replace LV := Lib.hid LV
    replace QQ := Lib.hid QQ
    go_enter Tryz.func149, Tryz.ntmps149
    go_wp2_with fail
    clear a0 n0 nf0 v0 vf0 a1 n1 nf1 v1 vf1 a2 n2 nf2 v2 vf2 a3 n3 nf3 v3 vf3 a8 a4 a5 a6 a7 LP LP0 LP1 NV LV LR QQ
    have LR := (Has.new (W.alloc (.cells #[.int .u64 f0, .int .u64 f1, .int .u64 f2, .int .u64 f3, .int .u64 s0, .int .u64 s1, .int .u64 s2, .int .u64 s3, .bool true] 193)) 28 #[.int .u64 0, .int .u64 0, .int .u64 0, .int .u64 0]).alloc (.cells #[.int .u64 s0, .int .u64 s1, .int .u64 s2, .int .u64 s3] 28)
    have LV := Has.new ((W.alloc (.cells #[.int .u64 f0, .int .u64 f1, .int .u64 f2, .int .u64 f3, .int .u64 s0, .int .u64 s1, .int .u64 s2, .int .u64 s3, .bool true] 193)).alloc (.cells #[.int .u64 0, .int .u64 0, .int .u64 0, .int .u64 0] 28)) 28 #[.int .u64 s0, .int .u64 s1, .int .u64 s2, .int .u64 s3]
    simp only [World.size_alloc] at LR LV
    have QQ := (((Below.refl W.heap.size W).alloc (Nat.le_refl _) (.cells #[.int .u64 f0, .int .u64 f1, .int .u64 f2, .int .u64 f3, .int .u64 s0, .int .u64 s1, .int .u64 s2, .int .u64 s3, .bool true] 193)).alloc (by simp) (.cells #[.int .u64 0, .int .u64 0, .int .u64 0, .int .u64 0] 28)).alloc (by simp; omega) (.cells #[.int .u64 s0, .int .u64 s1, .int .u64 s2, .int .u64 s3] 28)
    obtain ⟨W2, hW2⟩ : ∃ W2, ((W.alloc (.cells #[.int .u64 f0, .int .u64 f1, .int .u64 f2, .int .u64 f3, .int .u64 s0, .int .u64 s1, .int .u64 s2, .int .u64 s3, .bool true] 193)).alloc (.cells #[.int .u64 0, .int .u64 0, .int .u64 0, .int .u64 0] 28)).alloc (.cells #[.int .u64 s0, .int .u64 s1, .int .u64 s2, .int .u64 s3] 28) = W2 := ⟨_, rfl⟩
    rw [hW2] at LR LV QQ ⊢
    clear hW2
    have LR2 := Lib.hid ((((LR.set 0 (.int .u64 s0)).set 1 (.int .u64 s1)).set 2 (.int .u64 s2)).set 3 (.int .u64 s3))
    have QQ2 := Lib.hid ((((QQ.setCell (p := ⟨(W.heap.size + 1), 0, none⟩) (by simp) (.int .u64 s0)).setCell (p := ⟨(W.heap.size + 1), 1, none⟩) (by simp) (.int .u64 s1)).setCell (p := ⟨(W.heap.size + 1), 2, none⟩) (by simp) (.int .u64 s2)).setCell (p := ⟨(W.heap.size + 1), 3, none⟩) (by simp) (.int .u64 s3))
    have x0 := LR.cell 0 _ rfl
    have f0' := LR.frozen 0
    have y0 := LV.cell 0 _ rfl
    have x1 := LR.cell 1 _ rfl
    have f1' := LR.frozen 1
    have y1 := LV.cell 1 _ rfl
    have x2 := LR.cell 2 _ rfl
    have f2' := LR.frozen 2
    have y2 := LV.cell 2 _ rfl
    have x3 := LR.cell 3 _ rfl
    have f3' := LR.frozen 3
    have y3 := LV.cell 3 _ rfl
    replace LR := Lib.hid LR
    replace LV := Lib.hid LV
    replace QQ := Lib.hid QQ
    go_region
    all_goals (go_wp2_with fail)
    all_goals (refine bodyPost_ret (results_wb rfl rfl LR2.out) rfl ?_)
    all_goals (exact hfin.out _ QQ2.out.drew)
theorem ne_bool (a b c d a' b' c' d' : Int) : ((!(a == a')) || (!(b == b')) || (!(c == c')) || (!(d == d'))) = !(a == a' && b == b' && c == c' && d == d') := by simp [Bool.not_and]
set_option maxRecDepth 100000 in
set_option maxHeartbeats 1000000 in
theorem both_any (W : World) (n1 n2 B1 B2 : Nat) :
    Calls Tryz.prog 159 #[tabV n1 B1, tabV n2 B2] W fun e w' => ∃ C1 C2, e = .returned (.func (.func 166) #[] #[.pointer (some ⟨C1, 0, none⟩), .pointer (some ⟨C2, 0, none⟩)]) ∧ W.heap.size ≤ C1 ∧ W.heap.size ≤ C2 ∧ Has w' C1 176 #[.int .i64 ((n1 : Nat) : Int), .func (.func 156) #[] #[.pointer (some ⟨B1, 0, none⟩)], .func (.func 157) #[] #[.pointer (some ⟨B1, 0, none⟩)], .func (.func 158) #[] #[]] ∧ Has w' C2 176 #[.int .i64 ((n2 : Nat) : Int), .func (.func 156) #[] #[.pointer (some ⟨B2, 0, none⟩)], .func (.func 157) #[] #[.pointer (some ⟨B2, 0, none⟩)], .func (.func 158) #[] #[]] ∧ Below W.heap.size W w' := by
  have L1 := Lib.hid ((Has.new W 176 #[.int .i64 ((n1 : Nat) : Int), .func (.func 156) #[] #[.pointer (some ⟨B1, 0, none⟩)], .func (.func 157) #[] #[.pointer (some ⟨B1, 0, none⟩)], .func (.func 158) #[] #[]]).alloc (.cells #[.int .i64 ((n2 : Nat) : Int), .func (.func 156) #[] #[.pointer (some ⟨B2, 0, none⟩)], .func (.func 157) #[] #[.pointer (some ⟨B2, 0, none⟩)], .func (.func 158) #[] #[]] 176))
  have L2 := Has.new (W.alloc (.cells #[.int .i64 ((n1 : Nat) : Int), .func (.func 156) #[] #[.pointer (some ⟨B1, 0, none⟩)], .func (.func 157) #[] #[.pointer (some ⟨B1, 0, none⟩)], .func (.func 158) #[] #[]] 176)) 176 #[.int .i64 ((n2 : Nat) : Int), .func (.func 156) #[] #[.pointer (some ⟨B2, 0, none⟩)], .func (.func 157) #[] #[.pointer (some ⟨B2, 0, none⟩)], .func (.func 158) #[] #[]]
  simp only [World.size_alloc] at L2
  have L2 := Lib.hid L2
  have Q := Lib.hid (((Below.refl W.heap.size W).alloc (Nat.le_refl _) (.cells #[.int .i64 ((n1 : Nat) : Int), .func (.func 156) #[] #[.pointer (some ⟨B1, 0, none⟩)], .func (.func 157) #[] #[.pointer (some ⟨B1, 0, none⟩)], .func (.func 158) #[] #[]] 176)).alloc (by simp) (.cells #[.int .i64 ((n2 : Nat) : Int), .func (.func 156) #[] #[.pointer (some ⟨B2, 0, none⟩)], .func (.func 157) #[] #[.pointer (some ⟨B2, 0, none⟩)], .func (.func 158) #[] #[]] 176))
  go_enter Tryz.func159, Tryz.ntmps159
  go_wp2_with fail
  go_ret
  exact ⟨W.heap.size, W.heap.size + 1, rfl, Nat.le_refl _, by omega, L1.out, L2.out, Q.out⟩
end Go.Proofs.YtadfkiebblmfkaaGreatDoor

/- A string's bytes onto a slice of bytes of the call's own. Conditions: the lengths are in reach. -/
namespace Go.Proofs.YtadfkiebblmfkaaGreatDoor
open Go Go.RowKit
variable {P : Program} (w : World)

/-- A slice's block is the elder one's, or a new one. -/
def NewBlock (w : World) (v v' : Value) : Prop := v'.ownBlock = v.ownBlock ∨ v'.ownBlock = some w.heap.size

theorem run_append_str (base : Nat) (t u ty e : TypeId) (i : TypeInfo) (z : Value) (ht : P.underlying t = some (.slice e)) (hu : P.underlying u = some .string) (hi : P.info? e = some i) (hz : i.zero = some z)
    (hsize : i.size = 1) (hby : i.bytes = 1) (hzs : z.cells.size = 1) (v : Value) (n : Nat) (xs : List Value) (hown : w.ownsRow base e 1 v n xs) (s : ByteArray)
    (hb : n + s.size ≤ 140737488355328) (hbase : base ≤ w.heap.size) :
    ∃ v' w', (Builtin.append_ #[t, u] ty #[v, .string s]).run P w = .ok v' w' ∧ w'.ownsRow base e 1 v' (n + s.size) (xs ++ byteCells s) ∧ w.grownBy w' v.ownBlock ∧ NewBlock w v v' := by
  have hl := byteCells_length s
  have hsrc : Src P i.size u (.string s) s.size (byteCells s) w := by rw [hsize]; exact Src.ofString w hu s
  have h63 : n + s.size ≤ maxLen := by simp only [maxLen]; omega
  have hlen : (xs ++ byteCells s).length = (n + s.size) * 1 := by rw [List.length_append, hown.1, hl]; omega
  have grown : ∀ (old : Nat), old < n + s.size → ∀ (row : Option Nat),
      (w.drew.alloc (.cells (xs.toArray ++ (byteCells s).toArray ++ Builtin.zeroCells z.cells (grownCap w (n + s.size) old e - (n + s.size))) e)).ownsRow base e 1
        (.slice (some ⟨w.heap.size, 0, none⟩) (n + s.size) (grownCap w (n + s.size) old e)) (n + s.size) (xs ++ byteCells s) ∧
      w.grownBy (w.drew.alloc (.cells (xs.toArray ++ (byteCells s).toArray ++ Builtin.zeroCells z.cells (grownCap w (n + s.size) old e - (n + s.size))) e)) row := by
    intro old ho row
    have hge := grownCap_ge w (n + s.size) old e
    have hcm : grownCap w (n + s.size) old e ≤ maxLen := grownCap_le_maxLen w (n + s.size) old e h63
    refine ⟨⟨hlen, .inr ⟨w.heap.size, _, _, rfl, hbase, heap_alloc_new w.drew _, hge, hcm, ?_, ?_⟩⟩, ⟨rfl, rfl, rfl, by simp, fun k hk _ => Below.heap_alloc w.drew _ k hk⟩⟩
    · simp only [Array.size_append, List.size_toArray, size_zeroCells, hzs, hown.1, hl]
      omega
    · simp only [Array.toList_append, List.append_assoc]
      rw [← List.append_assoc, ← hlen]
      exact List.take_left
  rcases hown.2 with ⟨rfl, rfl⟩ | ⟨g, cap, cur, rfl, hbg, hg, hnc, hcm, hcs, htake⟩
  · have hx : xs = [] := List.eq_nil_of_length_eq_zero (by simpa using hown.1)
    subst hx
    by_cases hm : s.size = 0
    · obtain rfl : s = ByteArray.empty := ByteArray.ext (Array.eq_empty_of_size_eq_zero hm)
      refine ⟨.slice none 0 0, w, ?_, World.ownsRow_nil w base e 1, ⟨rfl, rfl, rfl, Nat.le_refl _, fun _ _ _ => rfl⟩, .inl rfl⟩
      simp [Builtin.append_, run_underlying ht, run_underlying hu, sizeOf, typeInfo, hi, Builtin.lenOf, Builtin.firstCells]
    · have hr := run_append_grow_src (P := P) w t u ty e i z ht hi hz none 0 0 [] (by simp [Builtin.firstCells]) (.string s) s.size (byteCells s) hsrc (by omega) (by simp only [maxLen] at h63; omega) (growslice_fits (by omega) (by rw [hby]; omega))
      have hgr := grown 0 (by omega) (Value.ownBlock (.slice none 0 0))
      simp only [List.nil_append, Array.empty_append, Nat.zero_add] at hr hgr ⊢
      exact ⟨_, _, hr, hgr.1, hgr.2, .inr rfl⟩
  · by_cases hroom : n + s.size ≤ cap
    · have hfit : n * 1 + (byteCells s).length ≤ cur.size := by rw [hl, hcs]; omega
      have hst := run_storeCells_at P g (n * i.size) e (byteCells s) 0 cur w hg (by rw [hsize]; simpa using hfit) hsrc.one
      simp only [Nat.add_zero] at hst
      have hr : (Builtin.append_ #[t, u] ty #[.slice (some ⟨g, 0, none⟩) n cap, .string s]).run P w = .ok (.slice (some ⟨g, 0, none⟩) (n + s.size) cap) (w.setRow g (cur.toList.take (n * i.size) ++ byteCells s ++ cur.toList.drop (n * i.size + (byteCells s).length)).toArray) := by
        simp [Builtin.append_, run_underlying ht, run_underlying hu, sizeOf, typeInfo, hi, hsrc.len, Builtin.lenOf, hroom, hsrc.cells, Addr.add_lit, hst]
      rw [hsize] at hr
      refine ⟨_, _, hr, ⟨hlen, .inr ⟨g, cap, _, rfl, hbg, setRow_heap w g cur _ e _ hg, hroom, hcm, ?_, ?_⟩⟩, ⟨rfl, rfl, rfl, by simp, fun k _ hk => setRow_other w g k _ (fun e => hk (by simp [Value.ownBlock, e]))⟩, .inl rfl⟩
      · simp only [List.size_toArray, List.length_append, List.length_take, List.length_drop, Array.length_toList]
        omega
      · rw [htake, ← hlen]
        exact List.take_left
    · have holds : (Builtin.firstCells i.size n (.slice (some ⟨g, 0, none⟩) n cap)).run P w.drew = .ok xs.toArray w.drew := by
        rw [hsize]
        exact run_firstCells_some w.drew 1 n ⟨g, 0, none⟩ n cap xs hown.1 (fun j u hj => by
          have := hown.cells (g := g) rfl j u hj
          simpa using this)
      have hr := run_append_grow_src (P := P) w t u ty e i z ht hi hz (some ⟨g, 0, none⟩) n cap xs holds (.string s) s.size (byteCells s) hsrc (by omega) (by simp only [maxLen] at h63; omega) (growslice_fits (by omega) (by rw [hby]; omega))
      have hgr := grown cap (by omega) (Value.ownBlock (.slice (some ⟨g, 0, none⟩) n cap))
      have hap : ((xs ++ byteCells s).toArray : Array Value) = xs.toArray ++ (byteCells s).toArray := by simp
      rw [hap] at hr
      exact ⟨_, _, hr, hgr.1, hgr.2, .inr rfl⟩

theorem wpList_append_str {ops : Array Oper} {rest : List Oper} {o : Oper} {a : Act} {Q : Exit → Act → World → Prop} (hgd : o.guard = none) (s x : Operand) (t u : TypeId)
    (ho : o.op = .call { callee := .builtin .append, args := #[s, x], argTypes := #[t, u] })
    (base : Nat) (e : TypeId) (i : TypeInfo) (z : Value) (ht : P.underlying t = some (.slice e)) (hu : P.underlying u = some .string) (hi : P.info? e = some i) (hz : i.zero = some z)
    (hsize : i.size = 1) (hby : i.bytes = 1) (hzs : z.cells.size = 1) (v : Value) (n : Nat) (xs : List Value) (hs : a.eval s = v) (hown : w.ownsRow base e 1 v n xs) (str : ByteArray) (hx : a.eval x = .string str)
    (hb : n + str.size ≤ 140737488355328) (hbase : base ≤ w.heap.size)
    (h : ∀ v' w', w'.ownsRow base e 1 v' (n + str.size) (xs ++ byteCells str) → w.grownBy w' v.ownBlock → NewBlock w v v' → wpList P ops Q rest (a.put o.dst v') w') : wpList P ops Q (o :: rest) a w := by
  refine wpList_plain hgd fun K hK => ?_
  obtain ⟨v', w', hr, h2, h3, h4⟩ := run_append_str (P := P) w base t u o.type e i z ht hu hi hz hsize hby hzs v n xs hown str hb hbase
  unfold Oper.wp execOp
  simp only [ho, resolve, invoke, builtin, Sem.run_bind, Sem.run_pure, Result.andThen_ok, List.map_toArray, List.map_cons, List.map_nil, hs, hx, hr]
  exact hK _ _ (h v' w' h2 h3 h4)
end Go.Proofs.YtadfkiebblmfkaaGreatDoor

/- Cells onto a row of the call's own, whatever their source; the row's block is the elder one, or a new one. -/
namespace Go.Proofs.YtadfkiebblmfkaaGreatDoor
open Go Go.RowKit
variable {P : Program} (w : World)

theorem run_append_src (base : Nat) (t tx ty e : TypeId) (i : TypeInfo) (z : Value) (size bytes : Nat) (ht : P.underlying t = some (.slice e)) (hi : P.info? e = some i) (hz : i.zero = some z)
    (hsize : i.size = size) (hby : i.bytes = bytes) (hzs : z.cells.size = size) (hs0 : 0 < size) (v : Value) (n : Nat) (xs : List Value) (hown : w.ownsRow base e size v n xs)
    (x : Value) (m : Nat) (hm : 0 < m) (news : List Value) (hsrc : Src P i.size tx x m news w)
    (hb : (n + m) * bytes ≤ 140737488355328) (h63 : n + m ≤ maxLen) (hbase : base ≤ w.heap.size) :
    ∃ v' w', (Builtin.append_ #[t, tx] ty #[v, x]).run P w = .ok v' w' ∧ w'.ownsRow base e size v' (n + m) (xs ++ news) ∧ w.grownBy w' v.ownBlock ∧ NewBlock w v v' := by
  have hl : news.length = m * size := by rw [← hsize]; exact hsrc.newsLen
  have hlen : (xs ++ news).length = (n + m) * size := by rw [List.length_append, hown.1, hl, Nat.add_mul]
  have grown : ∀ (old : Nat), old < n + m → ∀ (row : Option Nat),
      (w.drew.alloc (.cells (xs.toArray ++ news.toArray ++ Builtin.zeroCells z.cells (grownCap w (n + m) old e - (n + m))) e)).ownsRow base e size
        (.slice (some ⟨w.heap.size, 0, none⟩) (n + m) (grownCap w (n + m) old e)) (n + m) (xs ++ news) ∧
      w.grownBy (w.drew.alloc (.cells (xs.toArray ++ news.toArray ++ Builtin.zeroCells z.cells (grownCap w (n + m) old e - (n + m))) e)) row := by
    intro old ho row
    have hge := grownCap_ge w (n + m) old e
    have hcm : grownCap w (n + m) old e ≤ maxLen := grownCap_le_maxLen w (n + m) old e h63
    refine ⟨⟨hlen, .inr ⟨w.heap.size, _, _, rfl, hbase, heap_alloc_new w.drew _, hge, hcm, ?_, ?_⟩⟩, ⟨rfl, rfl, rfl, by simp, fun k hk _ => Below.heap_alloc w.drew _ k hk⟩⟩
    · simp only [Array.size_append, List.size_toArray, size_zeroCells, hzs, hown.1, hl, ← Nat.add_mul]
      congr 1
      omega
    · simp only [Array.toList_append, List.append_assoc]
      rw [← List.append_assoc, ← hlen]
      exact List.take_left
  rcases hown.2 with ⟨rfl, rfl⟩ | ⟨g, cap, cur, rfl, hbg, hg, hnc, hcm, hcs, htake⟩
  · have hx : xs = [] := List.eq_nil_of_length_eq_zero (by simpa using hown.1)
    subst hx
    have hr := run_append_grow_src (P := P) w t tx ty e i z ht hi hz none 0 0 [] (by simp [Builtin.firstCells]) x m news hsrc (by omega) (by simp only [maxLen] at h63; omega) (growslice_fits (by omega) (by rw [hby]; exact hb))
    have hgr := grown 0 (by omega) (Value.ownBlock (.slice none 0 0))
    simp only [List.nil_append, Array.empty_append, Nat.zero_add] at hr hgr ⊢
    exact ⟨_, _, hr, hgr.1, hgr.2, .inr rfl⟩
  · by_cases hroom : n + m ≤ cap
    · have hfit : n * i.size + news.length ≤ cur.size := by rw [hl, hcs, hsize, ← Nat.add_mul]; exact Nat.mul_le_mul_right _ hroom
      have hst := run_storeCells_at P g (n * i.size) e news 0 cur w hg (by simpa using hfit) hsrc.one
      simp only [Nat.add_zero] at hst
      have hr : (Builtin.append_ #[t, tx] ty #[.slice (some ⟨g, 0, none⟩) n cap, x]).run P w = .ok (.slice (some ⟨g, 0, none⟩) (n + m) cap) (w.setRow g (cur.toList.take (n * i.size) ++ news ++ cur.toList.drop (n * i.size + news.length)).toArray) := by
        rcases hsrc.kind with ⟨e', hk⟩ | hk <;> simp [Builtin.append_, run_underlying ht, run_underlying hk, sizeOf, typeInfo, hi, hsrc.len, hroom, hsrc.cells, Addr.add_lit, hst]
      rw [hsize] at hr
      refine ⟨_, _, hr, ⟨hlen, .inr ⟨g, cap, _, rfl, hbg, setRow_heap w g cur _ e _ hg, hroom, hcm, ?_, ?_⟩⟩, ⟨rfl, rfl, rfl, by simp, fun k _ hk => setRow_other w g k _ (fun e => hk (by simp [Value.ownBlock, e]))⟩, .inl rfl⟩
      · rw [hsize] at hfit
        simp only [List.size_toArray, List.length_append, List.length_take, List.length_drop, Array.length_toList]
        omega
      · rw [htake, ← hlen]
        exact List.take_left
    · have holds : (Builtin.firstCells i.size n (.slice (some ⟨g, 0, none⟩) n cap)).run P w.drew = .ok xs.toArray w.drew := by
        rw [hsize]
        exact run_firstCells_some w.drew size n ⟨g, 0, none⟩ n cap xs hown.1 (fun j u hj => by
          have := hown.cells (g := g) rfl j u hj
          simpa using this)
      have hr := run_append_grow_src (P := P) w t tx ty e i z ht hi hz (some ⟨g, 0, none⟩) n cap xs holds x m news hsrc (by omega) (by simp only [maxLen] at h63; omega) (growslice_fits (by omega) (by rw [hby]; exact hb))
      have hgr := grown cap (by omega) (Value.ownBlock (.slice (some ⟨g, 0, none⟩) n cap))
      have hap : ((xs ++ news).toArray : Array Value) = xs.toArray ++ news.toArray := by simp
      rw [hap] at hr
      exact ⟨_, _, hr, hgr.1, hgr.2, .inr rfl⟩

theorem wpList_append_src {ops : Array Oper} {rest : List Oper} {o : Oper} {a : Act} {Q : Exit → Act → World → Prop} (hgd : o.guard = none) (s x : Operand) (t tx : TypeId)
    (ho : o.op = .call { callee := .builtin .append, args := #[s, x], argTypes := #[t, tx] })
    (base : Nat) (e : TypeId) (i : TypeInfo) (z : Value) (size bytes : Nat) (ht : P.underlying t = some (.slice e)) (hi : P.info? e = some i) (hz : i.zero = some z)
    (hsize : i.size = size) (hby : i.bytes = bytes) (hzs : z.cells.size = size) (hs0 : 0 < size) (v : Value) (n : Nat) (xs : List Value) (hs : a.eval s = v) (hown : w.ownsRow base e size v n xs)
    (xv : Value) (m : Nat) (hm : 0 < m) (news : List Value) (hx : a.eval x = xv) (hsrc : Src P i.size tx xv m news w)
    (hb : (n + m) * bytes ≤ 140737488355328) (h63 : n + m ≤ maxLen) (hbase : base ≤ w.heap.size)
    (h : ∀ v' w', w'.ownsRow base e size v' (n + m) (xs ++ news) → w.grownBy w' v.ownBlock → NewBlock w v v' → wpList P ops Q rest (a.put o.dst v') w') : wpList P ops Q (o :: rest) a w := by
  refine wpList_plain hgd fun K hK => ?_
  obtain ⟨v', w', hr, h2, h3, h4⟩ := run_append_src (P := P) w base t tx o.type e i z size bytes ht hi hz hsize hby hzs hs0 v n xs hown xv m hm news hsrc hb h63 hbase
  unfold Oper.wp execOp
  simp only [ho, resolve, invoke, builtin, Sem.run_bind, Sem.run_pure, Result.andThen_ok, List.map_toArray, List.map_cons, List.map_nil, hs, hx, hr]
  exact hK _ _ (h v' w' h2 h3 h4)
end Go.Proofs.YtadfkiebblmfkaaGreatDoor

/- listed: what is wanted of two tables. Conditions: the slots lie in memory. -/
namespace Go.Proofs.YtadfkiebblmfkaaGreatDoor
open Go Go.RowKit
attribute [local go_sem] Oper.semAt_some Grows wide_fn

def flat8 (l : List Sl) : List Value := l.flatMap slC
theorem flat8_length : ∀ (l : List Sl), (flat8 l).length = l.length * 8
  | [] => rfl
  | x :: l => by
    have := flat8_length l
    simp only [flat8, List.flatMap_cons, List.length_append, List.length_cons] at this ⊢
    rw [this]
    simp [slC]
    omega
theorem flat8_snoc (l : List Sl) (x : Sl) : flat8 (l ++ [x]) = flat8 l ++ slC x := by simp [flat8]
theorem slC_at (x : Sl) (j : Nat) (h : j < 8) : (slC x)[j]? = some (.int .u64 (slP x j)) := by
  obtain rfl | rfl | rfl | rfl | rfl | rfl | rfl | rfl : j = 0 ∨ j = 1 ∨ j = 2 ∨ j = 3 ∨ j = 4 ∨ j = 5 ∨ j = 6 ∨ j = 7 := by omega
  all_goals rfl
theorem flat8_at : ∀ (l : List Sl) (i : Nat) (x : Sl) (j : Nat), l[i]? = some x → j < 8 → (flat8 l)[i * 8 + j]? = some (.int .u64 (slP x j))
  | [], i, x, j, h, _ => by simp at h
  | y :: l, 0, x, j, h, hj => by
    simp at h
    subst h
    rw [show flat8 (y :: l) = slC y ++ flat8 l from rfl, List.getElem?_append_left (by simp [slC]; omega), Nat.zero_mul, Nat.zero_add]
    exact slC_at y j hj
  | y :: l, i + 1, x, j, h, hj => by
    rw [show flat8 (y :: l) = slC y ++ flat8 l from rfl, List.getElem?_append_right (by simp [slC]; omega), show (i + 1) * 8 + j - (slC y).length = i * 8 + j by simp [slC]; omega]
    exact flat8_at l i x j (by simpa using h) hj
/-- A row of slots of the call's own. -/
def RowT (W : World) (base : Nat) (v : Value) (l : List Sl) : Prop := W.ownsRow base 67 8 v l.length (flat8 l)
theorem RowT.slots {W : World} {base : Nat} {v : Value} {l : List Sl} (h : RowT W base v l) (hw : ∀ x ∈ l, W256 x.1 ∧ W256 x.2) : SlotsAt W v l := by
  rcases h.2 with ⟨rfl, h0⟩ | ⟨g, cap, cur, rfl, hbg, hg', hnc, hcm, hcs, htake⟩
  · have : l = [] := List.eq_nil_of_length_eq_zero h0
    subst this
    exact SlotsAt.nil W
  · refine ⟨some ⟨g, 0, none⟩, cap, rfl, hnc, by simpa [maxLen] using hcm, hw, fun i x hx => ⟨⟨g, 0, none⟩, rfl, fun j hj => ?_⟩⟩
    rw [Addr.add_add]
    exact World.ownsRow.cells h (g := g) rfl _ _ (flat8_at l i x j hx hj)
theorem RowT.block {W : World} {base : Nat} {v : Value} {l : List Sl} (h : RowT W base v l) {b : Nat} (hb : v.ownBlock = some b) : base ≤ b ∧ ∃ cs, W.heap[b]? = some (.cells cs 67 (0, 0)) := by
  rcases h.2 with ⟨rfl, h0⟩ | ⟨g, cap, cur, rfl, hbg, hg', _⟩
  · cases hb
  · injection hb with hb
    subst hb
    exact ⟨hbg, cur, hg'⟩
theorem RowT.keep {A X : World} {base : Nat} {v : Value} {l : List Sl} (h : RowT A base v l) (hk : ∀ b cs, base ≤ b → A.heap[b]? = some (.cells cs 67 (0, 0)) → X.heap[b]? = some (.cells cs 67 (0, 0))) : RowT X base v l := by
  refine ⟨h.1, ?_⟩
  rcases h.2 with h' | ⟨g, cap, cur, e1, e2, e3, e4⟩
  · exact .inl h'
  · exact .inr ⟨g, cap, cur, e1, e2, hk g _ e2 e3, e4⟩
theorem RowT.later {A X : World} {base : Nat} {v : Value} {l : List Sl} (h : RowT A base v l) (hb : Below A.heap.size A X) : RowT X base v l :=
  h.keep (fun b _ _ ho => (hb.block b (Array.getElem?_eq_some_iff.1 ho).1).trans ho)
theorem RowT.shape {W : World} {base : Nat} {v : Value} {l : List Sl} (h : RowT W base v l) : ∃ a c, v = .slice a l.length c := by
  rcases h.2 with ⟨rfl, h0⟩ | ⟨g, cap, cur, rfl, _⟩
  · exact ⟨none, 0, by rw [h0]⟩
  · exact ⟨_, _, rfl⟩
theorem wpListIn_append_run {F : Fence} {n : Nat} {P : Program} {w w' : World} {ops : Array Oper} {rest : List Oper} {o : Oper} {a : Act} {Q : Exit → Act → World → Prop}
    (hg : o.guard = none) (s x : Operand) (t : TypeId) (hop : o.op = Op.call { callee := Callee.builtin Builtin.append, args := #[s, x], argTypes := #[t, t] })
    (v x0 v' : Value) (hs : a.eval s = v) (hx : a.eval x = x0) (hr : (Builtin.append_ #[t, t] o.type #[v, x0]).run P w = .ok v' w')
    (hK : wpListIn F n P ops Q rest (a.put o.dst v') w') : wpListIn F n P ops Q (o :: rest) a w := by
  refine wpListIn_plain hg fun K hK' => ?_
  unfold Oper.wpIn
  refine ⟨by simp [Oper.about, hop, resolve, Target.leads, Sem.run_pure], ?_⟩
  rw [Oper.semAt_plain F _ _ (by rw [hop]; intro c hc'; cases hc')]
  simp [execOp, hop, resolve, invoke, builtin, hs, hx, hr, Result.andThen]
  exact hK' _ _ hK
/-- What listed comes to. -/
def ListedP (W : World) (wt : Pr → Option Nat) (la lb : List Sl) (e : Ending) (W' : World) : Prop :=
  ((listF wt (bothL la lb)).length ≤ 1000 ∧ (∃ sv, e = .returned (.tuple #[sv, .int .i64 0]) ∧ RowT W' W.heap.size sv (listF wt (bothL la lb))) ∨ ¬ (listF wt (bothL la lb)).length ≤ 1000 ∧ e = .returned (.tuple #[.slice none 0 0, .int .i64 2])) ∧ Below W.heap.size W W'
theorem infoS : (Tryz.prog.info? 67).map (fun i => (i.zero, i.size, i.bytes)) = some (some (.agg #[.int .u64 0, .int .u64 0, .int .u64 0, .int .u64 0, .int .u64 0, .int .u64 0, .int .u64 0, .int .u64 0]), 8, 64) := by kernel_rfl
theorem infoS_of : ∃ i, Tryz.prog.info? 67 = some i ∧ i.zero = some (.agg #[.int .u64 0, .int .u64 0, .int .u64 0, .int .u64 0, .int .u64 0, .int .u64 0, .int .u64 0, .int .u64 0]) ∧ i.size = 8 ∧ i.bytes = 64 := by
  have h := infoS
  rcases hi : Tryz.prog.info? 67 with _ | i
  · rw [hi] at h; cases h
  · rw [hi] at h
    injection h with h
    simp only [Prod.mk.injEq] at h
    exact ⟨i, rfl, h.1, h.2.1, h.2.2⟩
theorem run_mkS (n : Nat) (hn : n ≤ 1000) (W : World) : ∃ cs : Array Value, cs.size = n * 8 ∧ (Instr.makeSlice 29 (.int .i64 0) (.int .i64 (n : Int))).run Tryz.prog W = .ok (.slice (some ⟨W.heap.size, 0, none⟩) 0 n) (W.alloc (.cells cs 67)) := by
  obtain ⟨i, hi, hz, hsz, hb⟩ := infoS_of
  have h := run_make (P := Tryz.prog) W 29 67 i _ Tryz.underlying29 hi hz .i64 .i64 0 (n : Int) (by omega) (by omega) (by rw [hb]; omega) (by omega)
  simp only [Int.toNat_natCast, Int.toNat_zero] at h
  rw [hsz] at h
  exact ⟨_, size_madeCells _ _, h⟩
theorem Has.own' {A X : World} {row : Option Nat} {B : Nat} {t : TypeId} {cs : Array Value} (h : Has A B t cs) (hg : A.grownBy X row) (hr : ∀ r, row = some r → ∃ o : Obj, A.heap[r]? = some o ∧ o.isCells = false) : Has X B t cs := by
  refine (hg.block B h.lt (fun e => ?_)).trans h
  obtain ⟨o, ho, hc⟩ := hr B e.symm
  rw [show A.heap[B]? = _ from h] at ho
  cases ho
  cases hc
theorem below_own {w A X : World} {row : Option Nat} {n : Nat} (h : Below w.heap.size w A) (hg : A.grownBy X row) (hn : w.heap.size ≤ n) (hr : ∀ r, row = some r → n ≤ r) : Below w.heap.size w X :=
  ⟨hg.os.trans h.os, hg.tape.trans h.tape, hg.output.trans h.output, Nat.le_trans h.size hg.size, fun k hk => (hg.block k (Nat.lt_of_lt_of_le hk h.size) (fun e => by have := hr k e.symm; omega)).trans (h.block k hk)⟩
/-- What the loop holds. -/
def LisSt (W0 : World) (wt : Pr → Option Nat) (la lb : List Sl) (f : FuncId) (T5 T6 T7 T8 S8 : Nat) (L : List Nat) (k : Nat) (W : World) : Prop :=
  ∃ sv, (Has W T8 29 #[sv] ∧ RowT W W0.heap.size sv (listF wt ((bothL la lb).take k)) ∧ (∀ b ∈ L, sv.ownBlock ≠ some b)) ∧ ((listF wt ((bothL la lb).take k)).length ≤ 1000 ∧ ∀ x ∈ listF wt ((bothL la lb).take k), W256 x.1 ∧ W256 x.2) ∧ (Has W T5 180 #[.func (.func f) #[] #[]] ∧ Has W T6 29 #[.slice none 0 0] ∧ Has W T7 46 #[.int .i64 0]) ∧ Below W0.heap.size W0 W ∧ S8 ≤ W.heap.size
/-- What it holds where there was no room. -/
def LisNo (W0 : World) (wt : Pr → Option Nat) (la lb : List Sl) (T6 T7 : Nat) (c : Code) (k : Nat) (W : World) : Prop := c = .ret ∧ ¬ (listF wt (bothL la lb)).length ≤ 1000 ∧ Has W T6 29 #[.slice none 0 0] ∧ Has W T7 46 #[.int .i64 2] ∧ Below W0.heap.size W0 W
variable {W0 : World} {wt : Pr → Option Nat} {la lb : List Sl} {f : FuncId} {T5 T6 T7 T8 S8 : Nat} {L : List Nat}
theorem LisSt.later {k : Nat} {A X : World} (h : LisSt W0 wt la lb f T5 T6 T7 T8 S8 L k A) (hb : Below A.heap.size A X) : LisSt W0 wt la lb f T5 T6 T7 T8 S8 L k X := by
  obtain ⟨sv, ⟨h1, h2, h3⟩, h4, ⟨h5, h6, h7⟩, h8, h9⟩ := h
  exact ⟨sv, ⟨h1.later hb, h2.later hb, h3⟩, h4, ⟨h5.later hb, h6.later hb, h7.later hb⟩, h8.trans (hb.mono h8.size), Nat.le_trans h9 hb.size⟩
theorem RowT.own' {A X : World} {row : Option Nat} {base : Nat} {v : Value} {l : List Sl} (h : RowT A base v l) (hg : A.grownBy X row) (hr : ∀ r, row = some r → ∃ o : Obj, A.heap[r]? = some o ∧ o.isCells = false) : RowT X base v l :=
  h.keep (fun b cs _ hb => Has.own' (show Has A b 67 cs from hb) hg hr)
theorem LisSt.base {k : Nat} {A : World} (h : LisSt W0 wt la lb f T5 T6 T7 T8 S8 L k A) : W0.heap.size ≤ A.heap.size := by
  obtain ⟨sv, _, _, _, h8, _⟩ := h
  exact h8.size
theorem LisSt.own {n : Nat} (hn : W0.heap.size ≤ n) : OwnFrom n (fun k W => LisSt W0 wt la lb f T5 T6 T7 T8 S8 L k W) := fun k A X row hs hg hr => by
  obtain ⟨sv, ⟨h1, h2, h3⟩, h4, ⟨h5, h6, h7⟩, h8, h9⟩ := hs
  have e := fun r e => (hr r e).2
  exact ⟨sv, ⟨h1.own' hg e, h2.own' hg e, h3⟩, h4, ⟨h5.own' hg e, h6.own' hg e, h7.own' hg e⟩, below_own h8 hg hn (fun r e => (hr r e).1), Nat.le_trans h9 hg.size⟩
theorem LisNo.later {c : Code} {k : Nat} {A X : World} (h : LisNo W0 wt la lb T6 T7 c k A) (hb : Below A.heap.size A X) : LisNo W0 wt la lb T6 T7 c k X :=
  ⟨h.1, h.2.1, h.2.2.1.later hb, h.2.2.2.1.later hb, h.2.2.2.2.trans (hb.mono h.2.2.2.2.size)⟩
theorem LisNo.own {n : Nat} (hn : W0.heap.size ≤ n) (c : Code) : OwnFrom n (fun k W => LisNo W0 wt la lb T6 T7 c k W) := fun k A X row hs hg hr =>
  ⟨hs.1, hs.2.1, hs.2.2.1.own' hg (fun r e => (hr r e).2), hs.2.2.2.1.own' hg (fun r e => (hr r e).2), below_own hs.2.2.2.2 hg hn (fun r e => (hr r e).1)⟩
theorem listF_take (w : Pr → Option Nat) (l : List Pr) (k : Nat) (p : Pr) (h : l[k]? = some p) : listF w (l.take (k + 1)) = listF w (l.take k) ++ (match w p with | some v => [(p.key, v)] | none => []) := by
  rw [List.take_succ_eq_append_getElem (List.getElem?_eq_some_iff.1 h).1, (List.getElem?_eq_some_iff.1 h).2]
  unfold listF
  rw [List.filterMap_append]
  congr 1
  rcases hw : w p with _ | v <;> simp [List.filterMap_cons, hw]
theorem listF_part (w : Pr → Option Nat) (l : List Pr) (k : Nat) : (listF w (l.take k)).length ≤ (listF w l).length := by
  unfold listF
  have := List.take_append_drop k l
  conv => rhs; rw [← this]
  rw [List.filterMap_append, List.length_append]
  omega
theorem bothL_wide (a b : List Sl) (ha : ∀ x ∈ a, W256 x.1 ∧ W256 x.2) (hb : ∀ x ∈ b, W256 x.1 ∧ W256 x.2) : ∀ p ∈ bothL a b, W256 p.key ∧ W256 p.fst ∧ W256 p.snd := by
  have z : W256 0 := by unfold W256; omega
  fun_induction bothL a b with
  | case1 => intro p hp; cases hp
  | case2 y b ih =>
    intro p hp
    rcases List.mem_cons.1 hp with rfl | hp
    · exact ⟨(hb y (by simp)).1, z, (hb y (by simp)).2⟩
    · exact ih ha (fun x hx => hb x (by simp [hx])) p hp
  | case3 x a ih =>
    intro p hp
    rcases List.mem_cons.1 hp with rfl | hp
    · exact ⟨(ha x (by simp)).1, (ha x (by simp)).2, z⟩
    · exact ih (fun x hx => ha x (by simp [hx])) hb p hp
  | case4 x a y b h ih =>
    intro p hp
    rcases List.mem_cons.1 hp with rfl | hp
    · exact ⟨(ha x (by simp)).1, (ha x (by simp)).2, z⟩
    · exact ih (fun x hx => ha x (by simp [hx])) hb p hp
  | case5 x a y b h h' ih =>
    intro p hp
    rcases List.mem_cons.1 hp with rfl | hp
    · exact ⟨(hb y (by simp)).1, z, (hb y (by simp)).2⟩
    · exact ih ha (fun x hx => hb x (by simp [hx])) p hp
  | case6 x a y b h h' ih =>
    intro p hp
    rcases List.mem_cons.1 hp with rfl | hp
    · exact ⟨(ha x (by simp)).1, (ha x (by simp)).2, (hb y (by simp)).2⟩
    · exact ih (fun x hx => ha x (by simp [hx])) (fun x hx => hb x (by simp [hx])) p hp
theorem keeps_below {A X : World} {m n : Nat} (h : Below A.heap.size A X) : KeepsFrom n A X := ⟨h.size, fun k o _ ho _ => (h.block k (Array.getElem?_eq_some_iff.1 ho).1).trans ho⟩
theorem RowT.other {A X : World} {base B : Nat} {t : TypeId} {cs : Array Value} {v : Value} {l : List Sl} (h : RowT A base v l) (hB : Has A B t cs) (ht : t ≠ 67) : v.ownBlock ≠ some B := fun e => by
  obtain ⟨_, cs', h'⟩ := h.block e
  rw [show A.heap[B]? = _ from hB] at h'
  injection h' with h'
  injection h' with _ h' _
  exact ht h'
theorem Has.rowT {A X : World} {base B : Nat} {t : TypeId} {cs : Array Value} {v : Value} {l : List Sl} (hB : Has A B t cs) (h : RowT A base v l) (ht : t ≠ 67) (hg : A.grownBy X v.ownBlock) : Has X B t cs :=
  (hg.block B hB.lt (fun e => h.other (X := X) hB ht e.symm)).trans hB
theorem SlotsAt.wideAll {W : World} {v : Value} {l : List Sl} (h : SlotsAt W v l) : ∀ x ∈ l, W256 x.1 ∧ W256 x.2 := by
  obtain ⟨_, _, _, _, _, h4, _⟩ := h
  exact h4

set_option maxRecDepth 100000 in
set_option maxHeartbeats 8000000 in
theorem listed_any (W : World) (sa sb : Value) (la lb : List Sl) (ha : SlotsAt W sa la) (hb : SlotsAt W sb lb) (f : FuncId) (wt : Pr → Option Nat) (hw : WantOK f wt) (hcf : ∀ args w, (callFunc f args).run Tryz.prog w = .ok (.enter f args) w) (hla : la.length ≤ 1000) (hlb : lb.length ≤ 1000) :
    Calls Tryz.prog 148 #[sa, sb, .func (.func f) #[] #[]] W (ListedP W wt la lb) := by
  have hmx : Tryz.prog.follows .mixedOrders = true := by kernel_rfl
  obtain ⟨a, ca, rfl, _⟩ := ha.shape
  obtain ⟨b, cb, rfl, _⟩ := hb.shape
  have HA := Lib.hid ha
  have HB := Lib.hid hb
  have HW := Lib.hid hw
  have HL := Lib.hid (And.intro hla hlb)
  obtain ⟨m, hm⟩ : ∃ m : Nat, ((la.length : Nat) : Int) + ((lb.length : Nat) : Int) = (m : Int) := ⟨la.length + lb.length, by omega⟩
  have hm2 : (m : Int) ≤ 2000 := by omega
  have hm0 : (0 : Int) ≤ (m : Int) := by omega
  have W30 := ((Has.new W 180 #[.func (.func f) #[] #[]]).alloc (.cells #[.slice none 0 0] 29)).alloc (.cells #[.int .i64 0] 46)
  have W31 := (Has.new (W.alloc (.cells #[.func (.func f) #[] #[]] 180)) 29 #[.slice none 0 0]).alloc (.cells #[.int .i64 0] 46)
  have W32 := Has.new ((W.alloc (.cells #[.func (.func f) #[] #[]] 180)).alloc (.cells #[.slice none 0 0] 29)) 46 #[.int .i64 0]
  simp only [World.size_alloc] at W31 W32
  have q3 := (((Below.refl W.heap.size W).alloc (Nat.le_refl _) (.cells #[.func (.func f) #[] #[]] 180)).alloc (by simp) (.cells #[.slice none 0 0] 29)).alloc (by simp; omega) (.cells #[.int .i64 0] 46)
  have hs3 : (((W.alloc (.cells #[.func (.func f) #[] #[]] 180)).alloc (.cells #[.slice none 0 0] 29)).alloc (.cells #[.int .i64 0] 46)).heap.size = W.heap.size + 1 + 1 + 1 := by simp
  obtain ⟨W3, hW3⟩ : ∃ W3, ((W.alloc (.cells #[.func (.func f) #[] #[]] 180)).alloc (.cells #[.slice none 0 0] 29)).alloc (.cells #[.int .i64 0] 46) = W3 := ⟨_, rfl⟩
  rw [hW3] at W30 W31 W32 q3 hs3
  have H30 := Lib.hid W30
  have H31 := Lib.hid W31
  have H32 := Lib.hid W32
  have Hq3 := Lib.hid q3
  have Hs3 := Lib.hid hs3
  clear W30 W31 W32 q3 hs3
  have hcap : (m : Int) ≤ 1000 ∨ ¬ (m : Int) ≤ 1000 := by omega
  clear ha hb hw hla hlb
  refine (callsIn_wide (n := 8)).1 ?_
  refine callsIn_of_wp_marks Tryz.func148 rfl trivial ?_ rfl
  simp only [Tryz.ntmps148, List.size_toArray, List.length_cons, List.length_nil, Nat.reduceAdd, Nat.reduceSub, Array.replicate_succ, Array.replicate_zero, List.push_toArray, List.append_toArray, List.nil_append, List.cons_append]
  rcases hcap with hcap | hcap
  · obtain ⟨cs, hcs, hmk0⟩ := run_mkS m (by omega) W3
    have hmk : (Instr.makeSlice 29 (.int .i64 0) (.int .i64 (m : Int))).run Tryz.prog W3 = .ok (.slice (some ⟨W3.heap.size, 0, none⟩) 0 m) (W3.alloc (.cells cs 67)) := hmk0
    have NG := Has.new W3 67 cs
    have q4 := (Below.refl W3.heap.size W3).alloc (Nat.le_refl _) (.cells cs 67)
    obtain ⟨W4, hW4⟩ : ∃ W4, W3.alloc (.cells cs 67) = W4 := ⟨_, rfl⟩
    rw [hW4] at NG q4 hmk
    have hs4 : W4.heap.size = W3.heap.size + 1 := by rw [← hW4]; simp
    have N8 := Has.new W4 29 #[.slice none 0 0]
    have L8 := Has.new W4 29 #[.slice (some ⟨W3.heap.size, 0, none⟩) 0 m]
    have x0 := N8.cell 0 _ rfl
    have f0 := N8.frozen 0
    have y0 := L8.cell 0 _ rfl
    have g0 := L8.frozen 0
    have q5 := (Below.refl W4.heap.size W4).alloc (Nat.le_refl _) (.cells #[.slice (some ⟨W3.heap.size, 0, none⟩) 0 m] 29)
    have q35 := q4.trans (q5.mono q4.size)
    have hrow := Lib.hid (show RowT (W4.alloc (.cells #[.slice (some ⟨W3.heap.size, 0, none⟩) 0 m] 29)) W.heap.size (.slice (some ⟨W3.heap.size, 0, none⟩) 0 m) [] from ⟨rfl, .inr ⟨W3.heap.size, m, cs, rfl, by have := Hs3.out; omega, NG.later q5, Nat.zero_le _, by unfold maxLen; omega, hcs, rfl⟩⟩)
    replace hcs := Lib.hid hcs
    replace NG := Lib.hid NG
    replace q4 := Lib.hid q4
    replace q5 := Lib.hid q5
    replace q35 := Lib.hid q35
    replace N8 := Lib.hid N8
    replace L8 := Lib.hid L8
    replace hs4 := Lib.hid hs4
    replace hW4 := Lib.hid hW4
    clear hmk0
    gi_wp2_with fail
    clear x0 f0 y0 g0 hmk N8
    obtain ⟨W5, hW5⟩ : ∃ W5, W4.alloc (.cells #[.slice (some ⟨W3.heap.size, 0, none⟩) 0 m] 29) = W5 := ⟨_, rfl⟩
    rw [hW5] at hrow L8 q35 ⊢
    have Q5 := Lib.hid (Hq3.out.trans (q35.out.mono Hq3.out.size))
    have G5 := Lib.hid (H30.out.later q35.out)
    have G6 := Lib.hid (H31.out.later q35.out)
    have G7 := Lib.hid (H32.out.later q35.out)
    clear hW5 q4 q5 q35 hcs NG hW4
    refine (callsIn_free free_wide (slots_any W5 _ la (HA.out.later Q5.out))).mono ?_
    rintro _ W6 ⟨B1, rfl, hB1, hH1, q6⟩
    have hE1 := Lib.hid (And.intro hB1 hH1)
    have Hq6 := Lib.hid q6
    clear hB1 hH1 q6
    gi_wp2_with fail
    refine (callsIn_free free_wide (slots_any W6 _ lb (HB.out.later (Q5.out.trans (Hq6.out.mono Q5.out.size))))).mono ?_
    rintro _ W7 ⟨B2, rfl, hB2, hH2, q7⟩
    have hE2 := Lib.hid (And.intro hB2 hH2)
    have Hq7 := Lib.hid q7
    clear hB2 hH2 q7
    gi_wp2_with fail
    refine (callsIn_free free_wide (both_any W7 la.length lb.length B1 B2)).mono ?_
    rintro _ W8 ⟨C1, C2, rfl, hC1, hC2, hK1, hK2, q8⟩
    have q58 := Hq6.out.trans ((Hq7.out.trans (q8.mono Hq7.out.size)).mono Hq6.out.size)
    have q68 := Hq7.out.trans (q8.mono Hq7.out.size)
    have hT := Lib.hid (show W.heap.size < W5.heap.size ∧ W.heap.size + 1 < W5.heap.size ∧ W.heap.size + 1 + 1 < W5.heap.size ∧ W4.heap.size < W5.heap.size ∧ W5.heap.size ≤ B1 ∧ W5.heap.size ≤ B2 ∧ W5.heap.size ≤ C1 ∧ W5.heap.size ≤ C2 from ⟨G5.out.lt, G6.out.lt, G7.out.lt, L8.out.lt, hE1.out.1, Nat.le_trans Hq6.out.size hE2.out.1, Nat.le_trans (Nat.le_trans Hq6.out.size Hq7.out.size) hC1, Nat.le_trans (Nat.le_trans Hq6.out.size Hq7.out.size) hC2⟩)
    have hB18 := hE1.out.2.later q68
    have hB28 := hE2.out.2.later q8
    have hlt8 := Lib.hid (show B1 < W8.heap.size ∧ B2 < W8.heap.size ∧ C1 < W8.heap.size ∧ C2 < W8.heap.size from ⟨hB18.lt, hB28.lt, hK1.lt, hK2.lt⟩)
    have Q8 := Lib.hid (Q5.out.trans (q58.mono Q5.out.size))
    have hq8 := Lib.hid q58
    have HSEQ := Lib.hid (both_seq 7 la lb (.slice a la.length ca) (.slice b lb.length cb) B1 B2 C1 C2 W W8 HA.out HB.out Q8.out hK1 hK2 hB18 hB28 (by have := HL.out; omega) (by have := HL.out; omega))
    have HST0 := Lib.hid (show LisSt W wt la lb f W.heap.size (W.heap.size + 1) (W.heap.size + 1 + 1) W4.heap.size W8.heap.size [C1, C2, B1, B2] 0 W8 from ⟨_, ⟨L8.out.later q58, by simpa [listF] using hrow.out.later q58, fun b hb e => by
      have e1 : W3.heap.size = b := by injection e
      have := hT.out
      have := hs4.out
      simp at hb
      omega⟩, ⟨by simp [listF], fun x hx => by simp [listF] at hx⟩, ⟨G5.out.later q58, G6.out.later q58, G7.out.later q58⟩, Q8.out, Nat.le_refl _⟩)
    clear q58 q68 hB18 hB28 hC1 hC2 hK1 hK2 q8 hE1 hE2 Hq6 Hq7 hrow G5 G6 G7 L8
    gi_wp2_with fail
    refine wpIn_rangeFunc_C rfl (by omega) (gf := 166) (lb := #[.pointer (some ⟨C1, 0, none⟩), .pointer (some ⟨C2, 0, none⟩)]) rfl trivial (enters_of Tryz.func166 (by kernel_rfl) rfl)
      HSEQ.out Gr.keeps Kt.trans (fun W' l o o' hl h1 h2 _ => ⟨⟨rfl, rfl, rfl, by simp, fun k hk => World.putObj_heap_other (by have := Q8.out.size; omega)⟩, fun b hb _ => World.putObj_heap_other (by have := hlt8.out; simp at hb; omega)⟩) (fun k args W' _ hE => by obtain ⟨p, _, e⟩ := hE; rw [e]; rfl)
      (fun k W' => LisSt W wt la lb f W.heap.size (W.heap.size + 1) (W.heap.size + 1 + 1) W4.heap.size W8.heap.size [C1, C2, B1, B2] k W') (fun c k W' => LisNo W wt la lb (W.heap.size + 1) (W.heap.size + 1 + 1) c k W') (LisSt.own Q8.out.size) (fun c => LisNo.own Q8.out.size c)
      (fun s A X hs hb => hs.later hb) (fun c s A X hs hb => hs.later hb) HST0.out
      (fun k a' V => ∃ p bx bp, (bothL la lb)[k]? = some p ∧ Has V bx 28 #[.int .u64 (lim p.key 0), .int .u64 (lim p.key 1), .int .u64 (lim p.key 2), .int .u64 (lim p.key 3)] ∧ Has V bp 193 #[.int .u64 (lim p.fst 0), .int .u64 (lim p.fst 1), .int .u64 (lim p.fst 2), .int .u64 (lim p.fst 3), .int .u64 (lim p.snd 0), .int .u64 (lim p.snd 1), .int .u64 (lim p.snd 2), .int .u64 (lim p.snd 3), .bool p.ins] ∧ a' = { tmps := #[.slice a la.length ca, .slice b lb.length cb, .func (.func f) #[] #[], undef, undef, .pointer (some ⟨W.heap.size, 0, none⟩), .pointer (some ⟨W.heap.size + 1, 0, none⟩), .pointer (some ⟨W.heap.size + 1 + 1, 0, none⟩), .pointer (some ⟨W4.heap.size, 0, none⟩), .pointer (some ⟨bx, 0, none⟩), .pointer (some ⟨bp, 0, none⟩), undef, undef, .slice a la.length ca, .int .i64 ((la.length : Nat) : Int), .slice b lb.length cb, .int .i64 ((lb.length : Nat) : Int), .int .i64 (m : Int), .int .i64 (m : Int), .slice (some ⟨W3.heap.size, 0, none⟩) 0 m, .slice a la.length ca, .agg #[.int .i64 ((la.length : Nat) : Int), .func (.func 156) #[] #[.pointer (some ⟨B1, 0, none⟩)], .func (.func 157) #[] #[.pointer (some ⟨B1, 0, none⟩)], .func (.func 158) #[] #[]], .slice b lb.length cb, .agg #[.int .i64 ((lb.length : Nat) : Int), .func (.func 156) #[] #[.pointer (some ⟨B2, 0, none⟩)], .func (.func 157) #[] #[.pointer (some ⟨B2, 0, none⟩)], .func (.func 158) #[] #[]], .func (.func 166) #[] #[.pointer (some ⟨C1, 0, none⟩), .pointer (some ⟨C2, 0, none⟩)], .agg #[.int .u64 (lim p.key 0), .int .u64 (lim p.key 1), .int .u64 (lim p.key 2), .int .u64 (lim p.key 3)], .agg #[.int .u64 (lim p.fst 0), .int .u64 (lim p.fst 1), .int .u64 (lim p.fst 2), .int .u64 (lim p.fst 3), .int .u64 (lim p.snd 0), .int .u64 (lim p.snd 1), .int .u64 (lim p.snd 2), .int .u64 (lim p.snd 3), .bool p.ins], undef, undef, undef, undef, undef, undef, undef, undef, undef, undef, undef, undef, undef, undef, undef, undef, undef, undef], defers := [] })
      (fun k a' _ X Y row hs hg hr => by
        obtain ⟨p, bx, bp, h1, h2, h3, e⟩ := hs
        exact ⟨p, bx, bp, h1, h2.own' hg (fun r e => (hr r e).2), h3.own' hg (fun r e => (hr r e).2), e⟩) ?assign ?body ?done ?stop
    case assign =>
      intro ll k args W1 K hll hkN hst hE hK
      obtain ⟨p, hp, rfl⟩ := hE
      unfold wv prV
      have HST := Lib.hid hst
      have HK := Lib.hid hK
      have HP := Lib.hid hp
      clear hst hkN hK hp
      have N1 := Has.new W1 28 #[.int .u64 0, .int .u64 0, .int .u64 0, .int .u64 0]
      have M1 := Has.new W1 28 #[.int .u64 (lim p.key 0), .int .u64 (lim p.key 1), .int .u64 (lim p.key 2), .int .u64 (lim p.key 3)]
      have N2 := Has.new (W1.alloc (.cells #[.int .u64 (lim p.key 0), .int .u64 (lim p.key 1), .int .u64 (lim p.key 2), .int .u64 (lim p.key 3)] 28)) 193 #[.int .u64 0, .int .u64 0, .int .u64 0, .int .u64 0, .int .u64 0, .int .u64 0, .int .u64 0, .int .u64 0, .bool false]
      have M2 := Has.new (W1.alloc (.cells #[.int .u64 (lim p.key 0), .int .u64 (lim p.key 1), .int .u64 (lim p.key 2), .int .u64 (lim p.key 3)] 28)) 193 #[.int .u64 (lim p.fst 0), .int .u64 (lim p.fst 1), .int .u64 (lim p.fst 2), .int .u64 (lim p.fst 3), .int .u64 (lim p.snd 0), .int .u64 (lim p.snd 1), .int .u64 (lim p.snd 2), .int .u64 (lim p.snd 3), .bool p.ins]
      simp only [World.size_alloc] at N2 M2
      have x0 := N1.cell 0 _ rfl
      have f0 := N1.frozen 0
      have y0 := M1.cell 0 _ rfl
      have g0 := M1.frozen 0
      have x1 := N1.cell 1 _ rfl
      have f1 := N1.frozen 1
      have y1 := M1.cell 1 _ rfl
      have g1 := M1.frozen 1
      have x2 := N1.cell 2 _ rfl
      have f2 := N1.frozen 2
      have y2 := M1.cell 2 _ rfl
      have g2 := M1.frozen 2
      have x3 := N1.cell 3 _ rfl
      have f3 := N1.frozen 3
      have y3 := M1.cell 3 _ rfl
      have g3 := M1.frozen 3
      have u0 := N2.cell 0 _ rfl
      have v0 := N2.frozen 0
      have w0 := M2.cell 0 _ rfl
      have z0 := M2.frozen 0
      have u1 := N2.cell 1 _ rfl
      have v1 := N2.frozen 1
      have w1 := M2.cell 1 _ rfl
      have z1 := M2.frozen 1
      have u2 := N2.cell 2 _ rfl
      have v2 := N2.frozen 2
      have w2 := M2.cell 2 _ rfl
      have z2 := M2.frozen 2
      have u3 := N2.cell 3 _ rfl
      have v3 := N2.frozen 3
      have w3 := M2.cell 3 _ rfl
      have z3 := M2.frozen 3
      have u4 := N2.cell 4 _ rfl
      have v4 := N2.frozen 4
      have w4 := M2.cell 4 _ rfl
      have z4 := M2.frozen 4
      have u5 := N2.cell 5 _ rfl
      have v5 := N2.frozen 5
      have w5 := M2.cell 5 _ rfl
      have z5 := M2.frozen 5
      have u6 := N2.cell 6 _ rfl
      have v6 := N2.frozen 6
      have w6 := M2.cell 6 _ rfl
      have z6 := M2.frozen 6
      have u7 := N2.cell 7 _ rfl
      have v7 := N2.frozen 7
      have w7 := M2.cell 7 _ rfl
      have z7 := M2.frozen 7
      have u8 := N2.cell 8 _ rfl
      have v8 := N2.frozen 8
      have w8 := M2.cell 8 _ rfl
      have z8 := M2.frozen 8
      have M1' := Lib.hid (M1.alloc (.cells #[.int .u64 (lim p.fst 0), .int .u64 (lim p.fst 1), .int .u64 (lim p.fst 2), .int .u64 (lim p.fst 3), .int .u64 (lim p.snd 0), .int .u64 (lim p.snd 1), .int .u64 (lim p.snd 2), .int .u64 (lim p.snd 3), .bool p.ins] 193))
      have hg := Lib.hid (((Below.refl W1.heap.size W1).alloc (Nat.le_refl _) (.cells #[.int .u64 (lim p.key 0), .int .u64 (lim p.key 1), .int .u64 (lim p.key 2), .int .u64 (lim p.key 3)] 28)).alloc (by simp) (.cells #[.int .u64 (lim p.fst 0), .int .u64 (lim p.fst 1), .int .u64 (lim p.fst 2), .int .u64 (lim p.fst 3), .int .u64 (lim p.snd 0), .int .u64 (lim p.snd 1), .int .u64 (lim p.snd 2), .int .u64 (lim p.snd 3), .bool p.ins] 193))
      replace N1 := Lib.hid N1
      replace M1 := Lib.hid M1
      replace N2 := Lib.hid N2
      replace M2 := Lib.hid M2
      gi_wp2_with fail
      exact HK.out _ _ (keeps_below (m := 0) hg.out) (Kt.grow hg.out (HST.out.base)) (HST.out.later hg.out) ⟨p, W1.heap.size, W1.heap.size + 1, HP.out, M1'.out, M2.out, rfl⟩
    case body =>
      rintro ll k a' W1 hll hlo hkN hst ⟨p, bx, bp, hp, hbx, hbp, rfl⟩
      obtain ⟨sv, ⟨s1, s2, s3⟩, ⟨s4, s5⟩, ⟨s6, s7, s8⟩, s9, s10⟩ := hst
      have hwp := bothL_wide la lb HA.out.wideAll HB.out.wideAll p (List.mem_of_getElem? hp)
      obtain ⟨sa', sc, rfl⟩ := s2.shape
      have c5 := s6.cell 0 _ rfl
      have z0 := hbp.cell 0 _ rfl
      have z1 := hbp.cell 1 _ rfl
      have z2 := hbp.cell 2 _ rfl
      have z3 := hbp.cell 3 _ rfl
      have z4 := hbp.cell 4 _ rfl
      have z5 := hbp.cell 5 _ rfl
      have z6 := hbp.cell 6 _ rfl
      have z7 := hbp.cell 7 _ rfl
      have z8 := hbp.cell 8 _ rfl
      have HC := Lib.hid (HW.out W1 p hwp.2.1 hwp.2.2)
      have HP := Lib.hid hp
      have HWP := Lib.hid hwp
      have S := Lib.hid (show (Has W1 W4.heap.size 29 #[.slice sa' (listF wt ((bothL la lb).take k)).length sc] ∧ RowT W1 W.heap.size (.slice sa' (listF wt ((bothL la lb).take k)).length sc) (listF wt ((bothL la lb).take k)) ∧ ∀ b ∈ [C1, C2, B1, B2], Value.ownBlock (.slice sa' (listF wt ((bothL la lb).take k)).length sc) ≠ some b) ∧ ((listF wt ((bothL la lb).take k)).length ≤ 1000 ∧ ∀ x ∈ listF wt ((bothL la lb).take k), W256 x.1 ∧ W256 x.2) ∧ (Has W1 W.heap.size 180 #[.func (.func f) #[] #[]] ∧ Has W1 (W.heap.size + 1) 29 #[.slice none 0 0] ∧ Has W1 (W.heap.size + 1 + 1) 46 #[.int .i64 0]) ∧ Below W.heap.size W W1 ∧ W8.heap.size ≤ W1.heap.size from ⟨⟨s1, s2, s3⟩, ⟨s4, s5⟩, ⟨s6, s7, s8⟩, s9, s10⟩)
      have HBX := Lib.hid hbx
      clear s1 s2 s3 s4 s5 s6 s7 s8 s9 s10 hp hwp hbp hbx hlo HST0 HSEQ
      gi_wp2_with fail
      clear z0 z1 z2 z3 z4 z5 z6 z7 z8 c5
      refine (callsIn_free (free_round ll) HC.out).mono ?_
      rintro _ W2 ⟨v, b, rfl, hwv, hwt, q2⟩
      unfold wv
      have NV := Has.new W2 28 #[.int .u64 0, .int .u64 0, .int .u64 0, .int .u64 0]
      have LV := Has.new W2 28 #[.int .u64 (lim v 0), .int .u64 (lim v 1), .int .u64 (lim v 2), .int .u64 (lim v 3)]
      have q3 := (Below.refl W2.heap.size W2).alloc (Nat.le_refl _) (.cells #[.int .u64 (lim v 0), .int .u64 (lim v 1), .int .u64 (lim v 2), .int .u64 (lim v 3)] 28)
      have q23 := q2.trans (q3.mono q2.size)
      have x0 := NV.cell 0 _ rfl
      have f0 := NV.frozen 0
      have y0 := LV.cell 0 _ rfl
      have g0 := LV.frozen 0
      have x1 := NV.cell 1 _ rfl
      have f1 := NV.frozen 1
      have y1 := LV.cell 1 _ rfl
      have g1 := LV.frozen 1
      have x2 := NV.cell 2 _ rfl
      have f2 := NV.frozen 2
      have y2 := LV.cell 2 _ rfl
      have g2 := LV.frozen 2
      have x3 := NV.cell 3 _ rfl
      have f3 := NV.frozen 3
      have y3 := LV.cell 3 _ rfl
      have g3 := LV.frozen 3
      have HN := Lib.hid (And.intro hwv hwt)
      have Q23 := Lib.hid q23
      have LVH := Lib.hid LV
      have S1 := Lib.hid (S.out.1.1.later q23)
      have S2 := Lib.hid (S.out.1.2.1.later q23)
      have S7 := Lib.hid (S.out.2.2.1.2.1.later q23)
      have S8 := Lib.hid (S.out.2.2.1.2.2.later q23)
      have k8 := S1.out.cell 0 _ rfl
      replace NV := Lib.hid NV
      replace LV := Lib.hid LV
      clear q2 q3 q23 hwv hwt HC
      cases b
      · have HE := Lib.hid (show LisSt W wt la lb f W.heap.size (W.heap.size + 1) (W.heap.size + 1 + 1) W4.heap.size W8.heap.size [C1, C2, B1, B2] (k + 1) (W2.alloc (.cells #[.int .u64 (lim v 0), .int .u64 (lim v 1), .int .u64 (lim v 2), .int .u64 (lim v 3)] 28)) from by
          have h0 : LisSt W wt la lb f W.heap.size (W.heap.size + 1) (W.heap.size + 1 + 1) W4.heap.size W8.heap.size [C1, C2, B1, B2] k W1 := ⟨_, S.out⟩
          have h1 := h0.later Q23.out
          have e : listF wt ((bothL la lb).take (k + 1)) = listF wt ((bothL la lb).take k) := by
            rw [listF_take wt _ k p HP.out, HN.out.2]
            simp
          unfold LisSt at h1 ⊢
          rw [e]
          exact h1)
        gi_wp2_with fail
        exact ⟨keeps_below (m := 0) Q23.out, Kt.grow Q23.out S.out.2.2.2.1.size, HE.out⟩
      · have e : listF wt ((bothL la lb).take (k + 1)) = listF wt ((bothL la lb).take k) ++ [(p.key, v)] := by
          rw [listF_take wt _ k p HP.out, HN.out.2]
          simp
        have hlen := S.out.2.1.1
        obtain ⟨n, hn⟩ : ∃ n, (listF wt ((bothL la lb).take k)).length = n := ⟨_, rfl⟩
        have HEN := Lib.hid (And.intro e hn)
        clear e
        rw [hn] at k8 hlen S1 S2
        by_cases h1000 : n = 1000
        · have hnI : (n : Int) = 1000 := by omega
          have HNO := Lib.hid (show ¬ (listF wt (bothL la lb)).length ≤ 1000 from fun h => by
            have h1 := listF_part wt (bothL la lb) (k + 1)
            rw [HEN.out.1, List.length_append, HEN.out.2] at h1
            simp at h1
            omega)
          have k6 := S7.out.cell 0 _ rfl
          have f6 := S7.out.frozen 0
          have k7 := S8.out.cell 0 _ rfl
          have f7 := S8.out.frozen 0
          have A6 := Lib.hid ((S7.out.set 0 (.slice none 0 0)).other (p := ⟨W.heap.size + 1 + 1, 0, none⟩) (by simp) (.int .i64 2))
          have A7 := Lib.hid ((S8.out.other (p := ⟨W.heap.size + 1, 0, none⟩) (by simp) (.slice none 0 0)).set 0 (.int .i64 2))
          have QE := Lib.hid (((S.out.2.2.2.1.trans (Q23.out.mono S.out.2.2.2.1.size)).setCell (p := ⟨W.heap.size + 1, 0, none⟩) (by simp) (.slice none 0 0)).setCell (p := ⟨W.heap.size + 1 + 1, 0, none⟩) (by simp; omega) (.int .i64 2))
          have KE := Lib.hid ((keeps_below (m := 0) (n := W8.heap.size) Q23.out).trans (((KeepsOthers.setCell (W2.alloc (.cells #[.int .u64 (lim v 0), .int .u64 (lim v 1), .int .u64 (lim v 2), .int .u64 (lim v 3)] 28)) ⟨W.heap.size + 1, 0, none⟩ (.slice none 0 0)).from W8.heap.size).trans ((KeepsOthers.setCell ((W2.alloc (.cells #[.int .u64 (lim v 0), .int .u64 (lim v 1), .int .u64 (lim v 2), .int .u64 (lim v 3)] 28)).setCell ⟨W.heap.size + 1, 0, none⟩ (.slice none 0 0)) ⟨W.heap.size + 1 + 1, 0, none⟩ (.int .i64 2)).from W8.heap.size)))
          gi_wp2_with fail
          exact ⟨KE.out, rfl, HNO.out, A6.out, A7.out, QE.out⟩
        · have hnI : ¬ (n : Int) = 1000 := by omega
          have KX := Lib.hid (HBX.out.later Q23.out)
          have kx0 := KX.out.cell 0 _ rfl
          have kx1 := KX.out.cell 1 _ rfl
          have kx2 := KX.out.cell 2 _ rfl
          have kx3 := KX.out.cell 3 _ rfl
          obtain ⟨W9, hW9⟩ : ∃ W9, W2.alloc (.cells #[.int .u64 (lim v 0), .int .u64 (lim v 1), .int .u64 (lim v 2), .int .u64 (lim v 3)] 28) = W9 := ⟨_, rfl⟩
          rw [hW9] at k8 kx0 kx1 kx2 kx3 KX Q23 LVH S1 S2 S7 S8 y0 y1 y2 y3 g0 g1 g2 g3
          have NS := Has.new W9 67 #[.int .u64 (lim p.key 0), .int .u64 (lim p.key 1), .int .u64 (lim p.key 2), .int .u64 (lim p.key 3), .int .u64 (lim v 0), .int .u64 (lim v 1), .int .u64 (lim v 2), .int .u64 (lim v 3)]
          have q9 := (Below.refl W9.heap.size W9).alloc (Nat.le_refl _) (.cells #[.int .u64 (lim p.key 0), .int .u64 (lim p.key 1), .int .u64 (lim p.key 2), .int .u64 (lim p.key 3), .int .u64 (lim v 0), .int .u64 (lim v 1), .int .u64 (lim v 2), .int .u64 (lim v 3)] 67)
          obtain ⟨i, hi, hz, hsize, hby⟩ := infoS_of
          have hrow9 := S2.out.later q9
          obtain ⟨v', w', hr, hown, hgr, hnb⟩ := run_append_src (P := Tryz.prog) (W9.alloc (.cells #[.int .u64 (lim p.key 0), .int .u64 (lim p.key 1), .int .u64 (lim p.key 2), .int .u64 (lim p.key 3), .int .u64 (lim v 0), .int .u64 (lim v 1), .int .u64 (lim v 2), .int .u64 (lim v 3)] 67)) W.heap.size 29 29 29 67 i _ 8 64 Tryz.underlying29 hi hz hsize hby rfl (by decide) (.slice sa' n sc) n (flat8 (listF wt ((bothL la lb).take k))) (by have := hrow9; unfold RowT at this; rw [HEN.out.2] at this; exact this) (.slice (some ⟨W9.heap.size, 0, none⟩) 1 1) 1 (by decide) (slC (p.key, v)) (by
            rw [hsize]
            refine Src.ofSlice _ Tryz.underlying29 ⟨W9.heap.size, 0, none⟩ 1 1 _ rfl (fun j u hj => ?_) (by simp [slC, Value.oneCell'])
            have ha : (⟨W9.heap.size, 0, none⟩ : Addr).add j = ⟨W9.heap.size, j, none⟩ := by unfold Addr.add; split <;> simp_all
            rw [ha]
            exact NS.cell j u (by simpa [slC] using hj)) (by omega) (by unfold maxLen; omega) (by have := S.out.2.2.2.1.size; have := Q23.out.size; have := q9.size; omega)
          have hrow' : RowT w' W.heap.size v' (listF wt ((bothL la lb).take (k + 1))) := by
            unfold RowT
            rw [HEN.out.1, flat8_snoc, List.length_append, HEN.out.2]
            exact hown
          obtain ⟨ga, gc, rfl⟩ : ∃ ga gc, v' = .slice ga (n + 1) gc := by
            obtain ⟨ga, gc, e⟩ := hrow'.shape
            rw [HEN.out.1, List.length_append, HEN.out.2] at e
            exact ⟨ga, gc, e⟩
          have U8 := ((S1.out.later q9).rowT hrow9 (by decide) hgr)
          have U5 := (((S.out.2.2.1.1.later Q23.out).later q9).rowT hrow9 (by decide) hgr)
          have U6 := ((S7.out.later q9).rowT hrow9 (by decide) hgr)
          have U7 := ((S8.out.later q9).rowT hrow9 (by decide) hgr)
          have t8 := U8.cell 0 _ rfl
          have t9 := U8.frozen 0
          have hTT := hT.out
          have hs44 := hs4.out
          have hs33 := Hs3.out
          have hq99 := q9.size
          have h23 := Q23.out.size
          have hb91 := S.out.2.2.2.1.size
          have hs8 := S.out.2.2.2.2
          have hl8 := hlt8.out
          have HB : Below W.heap.size (W9.alloc (.cells #[.int .u64 (lim p.key 0), .int .u64 (lim p.key 1), .int .u64 (lim p.key 2), .int .u64 (lim p.key 3), .int .u64 (lim v 0), .int .u64 (lim v 1), .int .u64 (lim v 2), .int .u64 (lim v 3)] 67)) w' := ⟨hgr.os, hgr.tape, hgr.output, hgr.size, fun k hk => hgr.block k (by omega) (fun e => by have := (hrow9.block e.symm).1; omega)⟩
          have QY := Lib.hid (((((Q23.out.mono hb91).trans (q9.mono (by omega))).trans HB)).setCell (p := ⟨W4.heap.size, 0, none⟩) (by show W.heap.size ≤ W4.heap.size; omega) (.slice ga (n + 1) gc))
          have KT := Lib.hid (show Kt W.heap.size [C1, C2, B1, B2] W1 (w'.setCell ⟨W4.heap.size, 0, none⟩ (.slice ga (n + 1) gc)) from ⟨QY.out, fun b hb hl => by
            have hbb : b ≠ W4.heap.size := by simp at hb; omega
            exact (Below.heap_setCell w' ⟨W4.heap.size, 0, none⟩ (.slice ga (n + 1) gc) b hbb).trans ((hgr.block b (by omega) (fun e => S.out.1.2.2 b hb (by rw [HEN.out.2]; exact e.symm))).trans ((q9.block b (by omega)).trans (Q23.out.block b hl)))⟩)
          have KF := Lib.hid (((keeps_below (m := 0) (n := W8.heap.size) Q23.out).trans (keeps_below (m := 0) (n := W8.heap.size) q9)).trans ((show KeepsFrom W8.heap.size (W9.alloc (.cells #[.int .u64 (lim p.key 0), .int .u64 (lim p.key 1), .int .u64 (lim p.key 2), .int .u64 (lim p.key 3), .int .u64 (lim v 0), .int .u64 (lim v 1), .int .u64 (lim v 2), .int .u64 (lim v 3)] 67)) w' from ⟨hgr.size, fun k o _ ho hc => (hgr.block k (Array.getElem?_eq_some_iff.1 ho).1 (fun e => by
            obtain ⟨_, cs', h'⟩ := hrow9.block e.symm
            rw [ho] at h'
            cases h'
            cases hc)).trans ho⟩).trans ((KeepsOthers.setCell w' ⟨W4.heap.size, 0, none⟩ (.slice ga (n + 1) gc)).from W8.heap.size)))
          have SN := Lib.hid (show LisSt W wt la lb f W.heap.size (W.heap.size + 1) (W.heap.size + 1 + 1) W4.heap.size W8.heap.size [C1, C2, B1, B2] (k + 1) (w'.setCell ⟨W4.heap.size, 0, none⟩ (.slice ga (n + 1) gc)) from ⟨_, ⟨U8.set 0 _, hrow'.keep (fun b cs hb ho => (Below.heap_setCell w' ⟨W4.heap.size, 0, none⟩ (.slice ga (n + 1) gc) b (fun e => by
              have e' : b = W4.heap.size := e
              rw [e', show w'.heap[W4.heap.size]? = _ from U8] at ho
              injection ho with ho
              injection ho with _ ho _
              exact absurd ho (by decide))).trans ho), fun b hb e => by
              rcases hnb with h | h
              · exact S.out.1.2.2 b hb (by rw [HEN.out.2]; exact h.symm.trans e)
              · rw [h] at e
                injection e with e
                simp at hb
                omega⟩, ⟨by rw [HEN.out.1, List.length_append, HEN.out.2]; simp; omega, fun x hx => by
              rw [HEN.out.1] at hx
              rcases List.mem_append.1 hx with hx | hx
              · exact S.out.2.1.2 x hx
              · simp at hx; subst hx; exact ⟨HWP.out.1, HN.out.1⟩⟩, ⟨U5.other (by show W.heap.size ≠ W4.heap.size; omega) _, U6.other (by show W.heap.size + 1 ≠ W4.heap.size; omega) _, U7.other (by show W.heap.size + 1 + 1 ≠ W4.heap.size; omega) _⟩, S.out.2.2.2.1.trans QY.out, by have := hgr.size; simp [World.setCell]; omega⟩)
          replace NS := Lib.hid NS
          replace q9 := Lib.hid q9
          replace hrow9 := Lib.hid hrow9
          replace hrow' := Lib.hid hrow'
          clear hown hgr hnb U5 U6 U7 U8 hTT hs44 hs33 hq99 h23 hb91 hs8 hl8 HB hsize hby hz hi KX
          gi_wp2_with (gi_at_builtin; refine wpListIn_append_run rfl (.tmp 38) (.tmp 42) 29 rfl _ _ _ rfl rfl hr ?_)
          exact ⟨KF.out, KT.out, SN.out⟩
    case done =>
      rintro D W1 hD hst hK
      obtain ⟨sv, ⟨s1, s2, s3⟩, ⟨s4, s5⟩, ⟨s6, s7, s8⟩, s9, s10⟩ := hst
      have eT : listF wt ((bothL la lb).take (bothL la lb).length) = listF wt (bothL la lb) := by rw [List.take_length]
      rw [eT] at s2 s4
      obtain ⟨ga, gc, rfl⟩ := s2.shape
      have c8 := s1.cell 0 _ rfl
      have c6 := s7.cell 0 _ rfl
      have f6 := s7.frozen 0
      have c7 := s8.cell 0 _ rfl
      have f7 := s8.frozen 0
      have hb1 := s9.size
      have hTT := hT.out
      have hss := Hs3.out
      have hs44 := hs4.out
      have A6 := (s7.set 0 (.slice ga (listF wt (bothL la lb)).length gc)).other (p := ⟨W.heap.size + 1 + 1, 0, none⟩) (by simp) (.int .i64 0)
      have A7 := (s8.other (p := ⟨W.heap.size + 1, 0, none⟩) (by simp) (.slice ga (listF wt (bothL la lb)).length gc)).set 0 (.int .i64 0)
      have QE := (s9.setCell (p := ⟨W.heap.size + 1, 0, none⟩) (by simp) (.slice ga (listF wt (bothL la lb)).length gc)).setCell (p := ⟨W.heap.size + 1 + 1, 0, none⟩) (by simp; omega) (.int .i64 0)
      have RE := (s2.keep (X := W1.setCell ⟨W.heap.size + 1, 0, none⟩ (.slice ga (listF wt (bothL la lb)).length gc)) (fun b cs hb ho => (Below.heap_setCell W1 ⟨W.heap.size + 1, 0, none⟩ (.slice ga (listF wt (bothL la lb)).length gc) b (fun e => by
        have e' : b = W.heap.size + 1 := e
        rw [e', show W1.heap[W.heap.size + 1]? = _ from s7] at ho
        injection ho with ho
        injection ho with _ ho _
        exact absurd ho (by decide))).trans ho)).keep (X := (W1.setCell ⟨W.heap.size + 1, 0, none⟩ (.slice ga (listF wt (bothL la lb)).length gc)).setCell ⟨W.heap.size + 1 + 1, 0, none⟩ (.int .i64 0)) (fun b cs hb ho => (Below.heap_setCell _ ⟨W.heap.size + 1 + 1, 0, none⟩ (.int .i64 0) b (fun e => by
        have e' : b = W.heap.size + 1 + 1 := e
        rw [e', show (W1.setCell ⟨W.heap.size + 1, 0, none⟩ (.slice ga (listF wt (bothL la lb)).length gc)).heap[W.heap.size + 1 + 1]? = _ from s8.other (p := ⟨W.heap.size + 1, 0, none⟩) (by simp) _] at ho
        injection ho with ho
        injection ho with _ ho _
        exact absurd ho (by decide))).trans ho)
      obtain ⟨WF, hWF⟩ : ∃ WF, (W1.setCell ⟨W.heap.size + 1, 0, none⟩ (.slice ga (listF wt (bothL la lb)).length gc)).setCell ⟨W.heap.size + 1 + 1, 0, none⟩ (.int .i64 0) = WF := ⟨_, rfl⟩
      have hq8s := Q8.out.size
      have hl8 := hlt8.out
      have h35 := hq8.out.size
      have hKF : WF.heap[D]? = some (.deferred (some [])) := by
        rw [← hWF]
        exact (Below.heap_setCell _ ⟨W.heap.size + 1 + 1, 0, none⟩ (.int .i64 0) D (by show D ≠ W.heap.size + 1 + 1; omega)).trans ((Below.heap_setCell _ ⟨W.heap.size + 1, 0, none⟩ (.slice ga (listF wt (bothL la lb)).length gc) D (by show D ≠ W.heap.size + 1; omega)).trans hK)
      rw [hWF] at A6 A7 QE RE
      have gD := grownBy_putObj' WF D (.deferred none)
      have eD : ∀ r, some D = some r → ∃ o : Obj, WF.heap[r]? = some o ∧ o.isCells = false := fun r e => by injection e with e; subst e; exact ⟨_, hKF, rfl⟩
      have B6 := Lib.hid (A6.own' gD eD)
      have B7 := Lib.hid (A7.own' gD eD)
      have KP := Lib.hid (show ListedP W wt la lb (.returned (.tuple #[.slice ga (listF wt (bothL la lb)).length gc, .int .i64 0])) (WF.putObj D (.deferred none)) from ⟨.inl ⟨s4, _, rfl, RE.own' gD eD⟩, below_own QE gD (Nat.le_refl _) (fun r e => by injection e with e; subst e; omega)⟩)
      replace hKF := Lib.hid hKF
      replace hWF := Lib.hid hWF
      replace hK := Lib.hid hK
      clear s1 s2 s3 s4 s5 s6 s7 s8 s9 s10 A6 A7 QE RE gD eD hb1 hTT hss hs44 HSEQ HST0 HA HB HW HL hq8s hl8 h35
      gi_wp2_with fail
      rw [hWF.out]
      have b6 := B6.out.cell 0 _ rfl
      have b7 := B7.out.cell 0 _ rfl
      refine ⟨by simp, .inl ⟨_, _, rfl, run_takeDeferred hKF.out, ?_⟩⟩
      exact ⟨_, by simp [results, Tryz.results148, go_sem, b6, b7], KP.out⟩
    case stop =>
      rintro D c k W1 hD hk ⟨rfl, s1, s2, s3, s4⟩ hK
      have gD := grownBy_putObj' W1 D (.deferred none)
      have eD : ∀ r, some D = some r → ∃ o : Obj, W1.heap[r]? = some o ∧ o.isCells = false := fun r e => by injection e with e; subst e; exact ⟨_, hK, rfl⟩
      have B6 := Lib.hid (s2.own' gD eD)
      have B7 := Lib.hid (s3.own' gD eD)
      have hq8s := Q8.out.size
      have KP := Lib.hid (show ListedP W wt la lb (.returned (.tuple #[.slice none 0 0, .int .i64 2])) (W1.putObj D (.deferred none)) from ⟨.inr ⟨s1, rfl⟩, below_own s4 gD (Nat.le_refl _) (fun r e => by injection e with e; subst e; omega)⟩)
      replace hK := Lib.hid hK
      clear s1 s2 s3 s4 gD eD HSEQ HST0 HA HB HW HL
      gi_wp2_with fail
      have b6 := B6.out.cell 0 _ rfl
      have b7 := B7.out.cell 0 _ rfl
      refine ⟨by simp, .inl ⟨_, _, rfl, run_takeDeferred hK.out, ?_⟩⟩
      exact ⟨_, by simp [results, Tryz.results148, go_sem, b6, b7], KP.out⟩
  · obtain ⟨cs, hcs, hmk0⟩ := run_mkS 1000 (by omega) W3
    have hmk : (Instr.makeSlice 29 (.int .i64 0) (.int .i64 1000)).run Tryz.prog W3 = .ok (.slice (some ⟨W3.heap.size, 0, none⟩) 0 1000) (W3.alloc (.cells cs 67)) := hmk0
    have NG := Has.new W3 67 cs
    have q4 := (Below.refl W3.heap.size W3).alloc (Nat.le_refl _) (.cells cs 67)
    obtain ⟨W4, hW4⟩ : ∃ W4, W3.alloc (.cells cs 67) = W4 := ⟨_, rfl⟩
    rw [hW4] at NG q4 hmk
    have hs4 : W4.heap.size = W3.heap.size + 1 := by rw [← hW4]; simp
    have N8 := Has.new W4 29 #[.slice none 0 0]
    have L8 := Has.new W4 29 #[.slice (some ⟨W3.heap.size, 0, none⟩) 0 1000]
    have x0 := N8.cell 0 _ rfl
    have f0 := N8.frozen 0
    have y0 := L8.cell 0 _ rfl
    have g0 := L8.frozen 0
    have q5 := (Below.refl W4.heap.size W4).alloc (Nat.le_refl _) (.cells #[.slice (some ⟨W3.heap.size, 0, none⟩) 0 1000] 29)
    have q35 := q4.trans (q5.mono q4.size)
    have hrow := Lib.hid (show RowT (W4.alloc (.cells #[.slice (some ⟨W3.heap.size, 0, none⟩) 0 1000] 29)) W.heap.size (.slice (some ⟨W3.heap.size, 0, none⟩) 0 1000) [] from ⟨rfl, .inr ⟨W3.heap.size, 1000, cs, rfl, by have := Hs3.out; omega, NG.later q5, Nat.zero_le _, by unfold maxLen; omega, hcs, rfl⟩⟩)
    replace hcs := Lib.hid hcs
    replace NG := Lib.hid NG
    replace q4 := Lib.hid q4
    replace q5 := Lib.hid q5
    replace q35 := Lib.hid q35
    replace N8 := Lib.hid N8
    replace L8 := Lib.hid L8
    replace hs4 := Lib.hid hs4
    replace hW4 := Lib.hid hW4
    clear hmk0
    gi_wp2_with fail
    clear x0 f0 y0 g0 hmk N8
    obtain ⟨W5, hW5⟩ : ∃ W5, W4.alloc (.cells #[.slice (some ⟨W3.heap.size, 0, none⟩) 0 1000] 29) = W5 := ⟨_, rfl⟩
    rw [hW5] at hrow L8 q35 ⊢
    have Q5 := Lib.hid (Hq3.out.trans (q35.out.mono Hq3.out.size))
    have G5 := Lib.hid (H30.out.later q35.out)
    have G6 := Lib.hid (H31.out.later q35.out)
    have G7 := Lib.hid (H32.out.later q35.out)
    clear hW5 q4 q5 q35 hcs NG hW4
    refine (callsIn_free free_wide (slots_any W5 _ la (HA.out.later Q5.out))).mono ?_
    rintro _ W6 ⟨B1, rfl, hB1, hH1, q6⟩
    have hE1 := Lib.hid (And.intro hB1 hH1)
    have Hq6 := Lib.hid q6
    clear hB1 hH1 q6
    gi_wp2_with fail
    refine (callsIn_free free_wide (slots_any W6 _ lb (HB.out.later (Q5.out.trans (Hq6.out.mono Q5.out.size))))).mono ?_
    rintro _ W7 ⟨B2, rfl, hB2, hH2, q7⟩
    have hE2 := Lib.hid (And.intro hB2 hH2)
    have Hq7 := Lib.hid q7
    clear hB2 hH2 q7
    gi_wp2_with fail
    refine (callsIn_free free_wide (both_any W7 la.length lb.length B1 B2)).mono ?_
    rintro _ W8 ⟨C1, C2, rfl, hC1, hC2, hK1, hK2, q8⟩
    have q58 := Hq6.out.trans ((Hq7.out.trans (q8.mono Hq7.out.size)).mono Hq6.out.size)
    have q68 := Hq7.out.trans (q8.mono Hq7.out.size)
    have hT := Lib.hid (show W.heap.size < W5.heap.size ∧ W.heap.size + 1 < W5.heap.size ∧ W.heap.size + 1 + 1 < W5.heap.size ∧ W4.heap.size < W5.heap.size ∧ W5.heap.size ≤ B1 ∧ W5.heap.size ≤ B2 ∧ W5.heap.size ≤ C1 ∧ W5.heap.size ≤ C2 from ⟨G5.out.lt, G6.out.lt, G7.out.lt, L8.out.lt, hE1.out.1, Nat.le_trans Hq6.out.size hE2.out.1, Nat.le_trans (Nat.le_trans Hq6.out.size Hq7.out.size) hC1, Nat.le_trans (Nat.le_trans Hq6.out.size Hq7.out.size) hC2⟩)
    have hB18 := hE1.out.2.later q68
    have hB28 := hE2.out.2.later q8
    have hlt8 := Lib.hid (show B1 < W8.heap.size ∧ B2 < W8.heap.size ∧ C1 < W8.heap.size ∧ C2 < W8.heap.size from ⟨hB18.lt, hB28.lt, hK1.lt, hK2.lt⟩)
    have Q8 := Lib.hid (Q5.out.trans (q58.mono Q5.out.size))
    have hq8 := Lib.hid q58
    have HSEQ := Lib.hid (both_seq 7 la lb (.slice a la.length ca) (.slice b lb.length cb) B1 B2 C1 C2 W W8 HA.out HB.out Q8.out hK1 hK2 hB18 hB28 (by have := HL.out; omega) (by have := HL.out; omega))
    have HST0 := Lib.hid (show LisSt W wt la lb f W.heap.size (W.heap.size + 1) (W.heap.size + 1 + 1) W4.heap.size W8.heap.size [C1, C2, B1, B2] 0 W8 from ⟨_, ⟨L8.out.later q58, by simpa [listF] using hrow.out.later q58, fun b hb e => by
      have e1 : W3.heap.size = b := by injection e
      have := hT.out
      have := hs4.out
      simp at hb
      omega⟩, ⟨by simp [listF], fun x hx => by simp [listF] at hx⟩, ⟨G5.out.later q58, G6.out.later q58, G7.out.later q58⟩, Q8.out, Nat.le_refl _⟩)
    clear q58 q68 hB18 hB28 hC1 hC2 hK1 hK2 q8 hE1 hE2 Hq6 Hq7 hrow G5 G6 G7 L8
    gi_wp2_with fail
    refine wpIn_rangeFunc_C rfl (by omega) (gf := 166) (lb := #[.pointer (some ⟨C1, 0, none⟩), .pointer (some ⟨C2, 0, none⟩)]) rfl trivial (enters_of Tryz.func166 (by kernel_rfl) rfl)
      HSEQ.out Gr.keeps Kt.trans (fun W' l o o' hl h1 h2 _ => ⟨⟨rfl, rfl, rfl, by simp, fun k hk => World.putObj_heap_other (by have := Q8.out.size; omega)⟩, fun b hb _ => World.putObj_heap_other (by have := hlt8.out; simp at hb; omega)⟩) (fun k args W' _ hE => by obtain ⟨p, _, e⟩ := hE; rw [e]; rfl)
      (fun k W' => LisSt W wt la lb f W.heap.size (W.heap.size + 1) (W.heap.size + 1 + 1) W4.heap.size W8.heap.size [C1, C2, B1, B2] k W') (fun c k W' => LisNo W wt la lb (W.heap.size + 1) (W.heap.size + 1 + 1) c k W') (LisSt.own Q8.out.size) (fun c => LisNo.own Q8.out.size c)
      (fun s A X hs hb => hs.later hb) (fun c s A X hs hb => hs.later hb) HST0.out
      (fun k a' V => ∃ p bx bp, (bothL la lb)[k]? = some p ∧ Has V bx 28 #[.int .u64 (lim p.key 0), .int .u64 (lim p.key 1), .int .u64 (lim p.key 2), .int .u64 (lim p.key 3)] ∧ Has V bp 193 #[.int .u64 (lim p.fst 0), .int .u64 (lim p.fst 1), .int .u64 (lim p.fst 2), .int .u64 (lim p.fst 3), .int .u64 (lim p.snd 0), .int .u64 (lim p.snd 1), .int .u64 (lim p.snd 2), .int .u64 (lim p.snd 3), .bool p.ins] ∧ a' = { tmps := #[.slice a la.length ca, .slice b lb.length cb, .func (.func f) #[] #[], undef, undef, .pointer (some ⟨W.heap.size, 0, none⟩), .pointer (some ⟨W.heap.size + 1, 0, none⟩), .pointer (some ⟨W.heap.size + 1 + 1, 0, none⟩), .pointer (some ⟨W4.heap.size, 0, none⟩), .pointer (some ⟨bx, 0, none⟩), .pointer (some ⟨bp, 0, none⟩), undef, undef, .slice a la.length ca, .int .i64 ((la.length : Nat) : Int), .slice b lb.length cb, .int .i64 ((lb.length : Nat) : Int), .int .i64 (m : Int), .int .i64 1000, .slice (some ⟨W3.heap.size, 0, none⟩) 0 1000, .slice a la.length ca, .agg #[.int .i64 ((la.length : Nat) : Int), .func (.func 156) #[] #[.pointer (some ⟨B1, 0, none⟩)], .func (.func 157) #[] #[.pointer (some ⟨B1, 0, none⟩)], .func (.func 158) #[] #[]], .slice b lb.length cb, .agg #[.int .i64 ((lb.length : Nat) : Int), .func (.func 156) #[] #[.pointer (some ⟨B2, 0, none⟩)], .func (.func 157) #[] #[.pointer (some ⟨B2, 0, none⟩)], .func (.func 158) #[] #[]], .func (.func 166) #[] #[.pointer (some ⟨C1, 0, none⟩), .pointer (some ⟨C2, 0, none⟩)], .agg #[.int .u64 (lim p.key 0), .int .u64 (lim p.key 1), .int .u64 (lim p.key 2), .int .u64 (lim p.key 3)], .agg #[.int .u64 (lim p.fst 0), .int .u64 (lim p.fst 1), .int .u64 (lim p.fst 2), .int .u64 (lim p.fst 3), .int .u64 (lim p.snd 0), .int .u64 (lim p.snd 1), .int .u64 (lim p.snd 2), .int .u64 (lim p.snd 3), .bool p.ins], undef, undef, undef, undef, undef, undef, undef, undef, undef, undef, undef, undef, undef, undef, undef, undef, undef, undef], defers := [] })
      (fun k a' _ X Y row hs hg hr => by
        obtain ⟨p, bx, bp, h1, h2, h3, e⟩ := hs
        exact ⟨p, bx, bp, h1, h2.own' hg (fun r e => (hr r e).2), h3.own' hg (fun r e => (hr r e).2), e⟩) ?assign ?body ?done ?stop
    case assign =>
      intro ll k args W1 K hll hkN hst hE hK
      obtain ⟨p, hp, rfl⟩ := hE
      unfold wv prV
      have HST := Lib.hid hst
      have HK := Lib.hid hK
      have HP := Lib.hid hp
      clear hst hkN hK hp
      have N1 := Has.new W1 28 #[.int .u64 0, .int .u64 0, .int .u64 0, .int .u64 0]
      have M1 := Has.new W1 28 #[.int .u64 (lim p.key 0), .int .u64 (lim p.key 1), .int .u64 (lim p.key 2), .int .u64 (lim p.key 3)]
      have N2 := Has.new (W1.alloc (.cells #[.int .u64 (lim p.key 0), .int .u64 (lim p.key 1), .int .u64 (lim p.key 2), .int .u64 (lim p.key 3)] 28)) 193 #[.int .u64 0, .int .u64 0, .int .u64 0, .int .u64 0, .int .u64 0, .int .u64 0, .int .u64 0, .int .u64 0, .bool false]
      have M2 := Has.new (W1.alloc (.cells #[.int .u64 (lim p.key 0), .int .u64 (lim p.key 1), .int .u64 (lim p.key 2), .int .u64 (lim p.key 3)] 28)) 193 #[.int .u64 (lim p.fst 0), .int .u64 (lim p.fst 1), .int .u64 (lim p.fst 2), .int .u64 (lim p.fst 3), .int .u64 (lim p.snd 0), .int .u64 (lim p.snd 1), .int .u64 (lim p.snd 2), .int .u64 (lim p.snd 3), .bool p.ins]
      simp only [World.size_alloc] at N2 M2
      have x0 := N1.cell 0 _ rfl
      have f0 := N1.frozen 0
      have y0 := M1.cell 0 _ rfl
      have g0 := M1.frozen 0
      have x1 := N1.cell 1 _ rfl
      have f1 := N1.frozen 1
      have y1 := M1.cell 1 _ rfl
      have g1 := M1.frozen 1
      have x2 := N1.cell 2 _ rfl
      have f2 := N1.frozen 2
      have y2 := M1.cell 2 _ rfl
      have g2 := M1.frozen 2
      have x3 := N1.cell 3 _ rfl
      have f3 := N1.frozen 3
      have y3 := M1.cell 3 _ rfl
      have g3 := M1.frozen 3
      have u0 := N2.cell 0 _ rfl
      have v0 := N2.frozen 0
      have w0 := M2.cell 0 _ rfl
      have z0 := M2.frozen 0
      have u1 := N2.cell 1 _ rfl
      have v1 := N2.frozen 1
      have w1 := M2.cell 1 _ rfl
      have z1 := M2.frozen 1
      have u2 := N2.cell 2 _ rfl
      have v2 := N2.frozen 2
      have w2 := M2.cell 2 _ rfl
      have z2 := M2.frozen 2
      have u3 := N2.cell 3 _ rfl
      have v3 := N2.frozen 3
      have w3 := M2.cell 3 _ rfl
      have z3 := M2.frozen 3
      have u4 := N2.cell 4 _ rfl
      have v4 := N2.frozen 4
      have w4 := M2.cell 4 _ rfl
      have z4 := M2.frozen 4
      have u5 := N2.cell 5 _ rfl
      have v5 := N2.frozen 5
      have w5 := M2.cell 5 _ rfl
      have z5 := M2.frozen 5
      have u6 := N2.cell 6 _ rfl
      have v6 := N2.frozen 6
      have w6 := M2.cell 6 _ rfl
      have z6 := M2.frozen 6
      have u7 := N2.cell 7 _ rfl
      have v7 := N2.frozen 7
      have w7 := M2.cell 7 _ rfl
      have z7 := M2.frozen 7
      have u8 := N2.cell 8 _ rfl
      have v8 := N2.frozen 8
      have w8 := M2.cell 8 _ rfl
      have z8 := M2.frozen 8
      have M1' := Lib.hid (M1.alloc (.cells #[.int .u64 (lim p.fst 0), .int .u64 (lim p.fst 1), .int .u64 (lim p.fst 2), .int .u64 (lim p.fst 3), .int .u64 (lim p.snd 0), .int .u64 (lim p.snd 1), .int .u64 (lim p.snd 2), .int .u64 (lim p.snd 3), .bool p.ins] 193))
      have hg := Lib.hid (((Below.refl W1.heap.size W1).alloc (Nat.le_refl _) (.cells #[.int .u64 (lim p.key 0), .int .u64 (lim p.key 1), .int .u64 (lim p.key 2), .int .u64 (lim p.key 3)] 28)).alloc (by simp) (.cells #[.int .u64 (lim p.fst 0), .int .u64 (lim p.fst 1), .int .u64 (lim p.fst 2), .int .u64 (lim p.fst 3), .int .u64 (lim p.snd 0), .int .u64 (lim p.snd 1), .int .u64 (lim p.snd 2), .int .u64 (lim p.snd 3), .bool p.ins] 193))
      replace N1 := Lib.hid N1
      replace M1 := Lib.hid M1
      replace N2 := Lib.hid N2
      replace M2 := Lib.hid M2
      gi_wp2_with fail
      exact HK.out _ _ (keeps_below (m := 0) hg.out) (Kt.grow hg.out (HST.out.base)) (HST.out.later hg.out) ⟨p, W1.heap.size, W1.heap.size + 1, HP.out, M1'.out, M2.out, rfl⟩
    case body =>
      rintro ll k a' W1 hll hlo hkN hst ⟨p, bx, bp, hp, hbx, hbp, rfl⟩
      obtain ⟨sv, ⟨s1, s2, s3⟩, ⟨s4, s5⟩, ⟨s6, s7, s8⟩, s9, s10⟩ := hst
      have hwp := bothL_wide la lb HA.out.wideAll HB.out.wideAll p (List.mem_of_getElem? hp)
      obtain ⟨sa', sc, rfl⟩ := s2.shape
      have c5 := s6.cell 0 _ rfl
      have z0 := hbp.cell 0 _ rfl
      have z1 := hbp.cell 1 _ rfl
      have z2 := hbp.cell 2 _ rfl
      have z3 := hbp.cell 3 _ rfl
      have z4 := hbp.cell 4 _ rfl
      have z5 := hbp.cell 5 _ rfl
      have z6 := hbp.cell 6 _ rfl
      have z7 := hbp.cell 7 _ rfl
      have z8 := hbp.cell 8 _ rfl
      have HC := Lib.hid (HW.out W1 p hwp.2.1 hwp.2.2)
      have HP := Lib.hid hp
      have HWP := Lib.hid hwp
      have S := Lib.hid (show (Has W1 W4.heap.size 29 #[.slice sa' (listF wt ((bothL la lb).take k)).length sc] ∧ RowT W1 W.heap.size (.slice sa' (listF wt ((bothL la lb).take k)).length sc) (listF wt ((bothL la lb).take k)) ∧ ∀ b ∈ [C1, C2, B1, B2], Value.ownBlock (.slice sa' (listF wt ((bothL la lb).take k)).length sc) ≠ some b) ∧ ((listF wt ((bothL la lb).take k)).length ≤ 1000 ∧ ∀ x ∈ listF wt ((bothL la lb).take k), W256 x.1 ∧ W256 x.2) ∧ (Has W1 W.heap.size 180 #[.func (.func f) #[] #[]] ∧ Has W1 (W.heap.size + 1) 29 #[.slice none 0 0] ∧ Has W1 (W.heap.size + 1 + 1) 46 #[.int .i64 0]) ∧ Below W.heap.size W W1 ∧ W8.heap.size ≤ W1.heap.size from ⟨⟨s1, s2, s3⟩, ⟨s4, s5⟩, ⟨s6, s7, s8⟩, s9, s10⟩)
      have HBX := Lib.hid hbx
      clear s1 s2 s3 s4 s5 s6 s7 s8 s9 s10 hp hwp hbp hbx hlo HST0 HSEQ
      gi_wp2_with fail
      clear z0 z1 z2 z3 z4 z5 z6 z7 z8 c5
      refine (callsIn_free (free_round ll) HC.out).mono ?_
      rintro _ W2 ⟨v, b, rfl, hwv, hwt, q2⟩
      unfold wv
      have NV := Has.new W2 28 #[.int .u64 0, .int .u64 0, .int .u64 0, .int .u64 0]
      have LV := Has.new W2 28 #[.int .u64 (lim v 0), .int .u64 (lim v 1), .int .u64 (lim v 2), .int .u64 (lim v 3)]
      have q3 := (Below.refl W2.heap.size W2).alloc (Nat.le_refl _) (.cells #[.int .u64 (lim v 0), .int .u64 (lim v 1), .int .u64 (lim v 2), .int .u64 (lim v 3)] 28)
      have q23 := q2.trans (q3.mono q2.size)
      have x0 := NV.cell 0 _ rfl
      have f0 := NV.frozen 0
      have y0 := LV.cell 0 _ rfl
      have g0 := LV.frozen 0
      have x1 := NV.cell 1 _ rfl
      have f1 := NV.frozen 1
      have y1 := LV.cell 1 _ rfl
      have g1 := LV.frozen 1
      have x2 := NV.cell 2 _ rfl
      have f2 := NV.frozen 2
      have y2 := LV.cell 2 _ rfl
      have g2 := LV.frozen 2
      have x3 := NV.cell 3 _ rfl
      have f3 := NV.frozen 3
      have y3 := LV.cell 3 _ rfl
      have g3 := LV.frozen 3
      have HN := Lib.hid (And.intro hwv hwt)
      have Q23 := Lib.hid q23
      have LVH := Lib.hid LV
      have S1 := Lib.hid (S.out.1.1.later q23)
      have S2 := Lib.hid (S.out.1.2.1.later q23)
      have S7 := Lib.hid (S.out.2.2.1.2.1.later q23)
      have S8 := Lib.hid (S.out.2.2.1.2.2.later q23)
      have k8 := S1.out.cell 0 _ rfl
      replace NV := Lib.hid NV
      replace LV := Lib.hid LV
      clear q2 q3 q23 hwv hwt HC
      cases b
      · have HE := Lib.hid (show LisSt W wt la lb f W.heap.size (W.heap.size + 1) (W.heap.size + 1 + 1) W4.heap.size W8.heap.size [C1, C2, B1, B2] (k + 1) (W2.alloc (.cells #[.int .u64 (lim v 0), .int .u64 (lim v 1), .int .u64 (lim v 2), .int .u64 (lim v 3)] 28)) from by
          have h0 : LisSt W wt la lb f W.heap.size (W.heap.size + 1) (W.heap.size + 1 + 1) W4.heap.size W8.heap.size [C1, C2, B1, B2] k W1 := ⟨_, S.out⟩
          have h1 := h0.later Q23.out
          have e : listF wt ((bothL la lb).take (k + 1)) = listF wt ((bothL la lb).take k) := by
            rw [listF_take wt _ k p HP.out, HN.out.2]
            simp
          unfold LisSt at h1 ⊢
          rw [e]
          exact h1)
        gi_wp2_with fail
        exact ⟨keeps_below (m := 0) Q23.out, Kt.grow Q23.out S.out.2.2.2.1.size, HE.out⟩
      · have e : listF wt ((bothL la lb).take (k + 1)) = listF wt ((bothL la lb).take k) ++ [(p.key, v)] := by
          rw [listF_take wt _ k p HP.out, HN.out.2]
          simp
        have hlen := S.out.2.1.1
        obtain ⟨n, hn⟩ : ∃ n, (listF wt ((bothL la lb).take k)).length = n := ⟨_, rfl⟩
        have HEN := Lib.hid (And.intro e hn)
        clear e
        rw [hn] at k8 hlen S1 S2
        by_cases h1000 : n = 1000
        · have hnI : (n : Int) = 1000 := by omega
          have HNO := Lib.hid (show ¬ (listF wt (bothL la lb)).length ≤ 1000 from fun h => by
            have h1 := listF_part wt (bothL la lb) (k + 1)
            rw [HEN.out.1, List.length_append, HEN.out.2] at h1
            simp at h1
            omega)
          have k6 := S7.out.cell 0 _ rfl
          have f6 := S7.out.frozen 0
          have k7 := S8.out.cell 0 _ rfl
          have f7 := S8.out.frozen 0
          have A6 := Lib.hid ((S7.out.set 0 (.slice none 0 0)).other (p := ⟨W.heap.size + 1 + 1, 0, none⟩) (by simp) (.int .i64 2))
          have A7 := Lib.hid ((S8.out.other (p := ⟨W.heap.size + 1, 0, none⟩) (by simp) (.slice none 0 0)).set 0 (.int .i64 2))
          have QE := Lib.hid (((S.out.2.2.2.1.trans (Q23.out.mono S.out.2.2.2.1.size)).setCell (p := ⟨W.heap.size + 1, 0, none⟩) (by simp) (.slice none 0 0)).setCell (p := ⟨W.heap.size + 1 + 1, 0, none⟩) (by simp; omega) (.int .i64 2))
          have KE := Lib.hid ((keeps_below (m := 0) (n := W8.heap.size) Q23.out).trans (((KeepsOthers.setCell (W2.alloc (.cells #[.int .u64 (lim v 0), .int .u64 (lim v 1), .int .u64 (lim v 2), .int .u64 (lim v 3)] 28)) ⟨W.heap.size + 1, 0, none⟩ (.slice none 0 0)).from W8.heap.size).trans ((KeepsOthers.setCell ((W2.alloc (.cells #[.int .u64 (lim v 0), .int .u64 (lim v 1), .int .u64 (lim v 2), .int .u64 (lim v 3)] 28)).setCell ⟨W.heap.size + 1, 0, none⟩ (.slice none 0 0)) ⟨W.heap.size + 1 + 1, 0, none⟩ (.int .i64 2)).from W8.heap.size)))
          gi_wp2_with fail
          exact ⟨KE.out, rfl, HNO.out, A6.out, A7.out, QE.out⟩
        · have hnI : ¬ (n : Int) = 1000 := by omega
          have KX := Lib.hid (HBX.out.later Q23.out)
          have kx0 := KX.out.cell 0 _ rfl
          have kx1 := KX.out.cell 1 _ rfl
          have kx2 := KX.out.cell 2 _ rfl
          have kx3 := KX.out.cell 3 _ rfl
          obtain ⟨W9, hW9⟩ : ∃ W9, W2.alloc (.cells #[.int .u64 (lim v 0), .int .u64 (lim v 1), .int .u64 (lim v 2), .int .u64 (lim v 3)] 28) = W9 := ⟨_, rfl⟩
          rw [hW9] at k8 kx0 kx1 kx2 kx3 KX Q23 LVH S1 S2 S7 S8 y0 y1 y2 y3 g0 g1 g2 g3
          have NS := Has.new W9 67 #[.int .u64 (lim p.key 0), .int .u64 (lim p.key 1), .int .u64 (lim p.key 2), .int .u64 (lim p.key 3), .int .u64 (lim v 0), .int .u64 (lim v 1), .int .u64 (lim v 2), .int .u64 (lim v 3)]
          have q9 := (Below.refl W9.heap.size W9).alloc (Nat.le_refl _) (.cells #[.int .u64 (lim p.key 0), .int .u64 (lim p.key 1), .int .u64 (lim p.key 2), .int .u64 (lim p.key 3), .int .u64 (lim v 0), .int .u64 (lim v 1), .int .u64 (lim v 2), .int .u64 (lim v 3)] 67)
          obtain ⟨i, hi, hz, hsize, hby⟩ := infoS_of
          have hrow9 := S2.out.later q9
          obtain ⟨v', w', hr, hown, hgr, hnb⟩ := run_append_src (P := Tryz.prog) (W9.alloc (.cells #[.int .u64 (lim p.key 0), .int .u64 (lim p.key 1), .int .u64 (lim p.key 2), .int .u64 (lim p.key 3), .int .u64 (lim v 0), .int .u64 (lim v 1), .int .u64 (lim v 2), .int .u64 (lim v 3)] 67)) W.heap.size 29 29 29 67 i _ 8 64 Tryz.underlying29 hi hz hsize hby rfl (by decide) (.slice sa' n sc) n (flat8 (listF wt ((bothL la lb).take k))) (by have := hrow9; unfold RowT at this; rw [HEN.out.2] at this; exact this) (.slice (some ⟨W9.heap.size, 0, none⟩) 1 1) 1 (by decide) (slC (p.key, v)) (by
            rw [hsize]
            refine Src.ofSlice _ Tryz.underlying29 ⟨W9.heap.size, 0, none⟩ 1 1 _ rfl (fun j u hj => ?_) (by simp [slC, Value.oneCell'])
            have ha : (⟨W9.heap.size, 0, none⟩ : Addr).add j = ⟨W9.heap.size, j, none⟩ := by unfold Addr.add; split <;> simp_all
            rw [ha]
            exact NS.cell j u (by simpa [slC] using hj)) (by omega) (by unfold maxLen; omega) (by have := S.out.2.2.2.1.size; have := Q23.out.size; have := q9.size; omega)
          have hrow' : RowT w' W.heap.size v' (listF wt ((bothL la lb).take (k + 1))) := by
            unfold RowT
            rw [HEN.out.1, flat8_snoc, List.length_append, HEN.out.2]
            exact hown
          obtain ⟨ga, gc, rfl⟩ : ∃ ga gc, v' = .slice ga (n + 1) gc := by
            obtain ⟨ga, gc, e⟩ := hrow'.shape
            rw [HEN.out.1, List.length_append, HEN.out.2] at e
            exact ⟨ga, gc, e⟩
          have U8 := ((S1.out.later q9).rowT hrow9 (by decide) hgr)
          have U5 := (((S.out.2.2.1.1.later Q23.out).later q9).rowT hrow9 (by decide) hgr)
          have U6 := ((S7.out.later q9).rowT hrow9 (by decide) hgr)
          have U7 := ((S8.out.later q9).rowT hrow9 (by decide) hgr)
          have t8 := U8.cell 0 _ rfl
          have t9 := U8.frozen 0
          have hTT := hT.out
          have hs44 := hs4.out
          have hs33 := Hs3.out
          have hq99 := q9.size
          have h23 := Q23.out.size
          have hb91 := S.out.2.2.2.1.size
          have hs8 := S.out.2.2.2.2
          have hl8 := hlt8.out
          have HB : Below W.heap.size (W9.alloc (.cells #[.int .u64 (lim p.key 0), .int .u64 (lim p.key 1), .int .u64 (lim p.key 2), .int .u64 (lim p.key 3), .int .u64 (lim v 0), .int .u64 (lim v 1), .int .u64 (lim v 2), .int .u64 (lim v 3)] 67)) w' := ⟨hgr.os, hgr.tape, hgr.output, hgr.size, fun k hk => hgr.block k (by omega) (fun e => by have := (hrow9.block e.symm).1; omega)⟩
          have QY := Lib.hid (((((Q23.out.mono hb91).trans (q9.mono (by omega))).trans HB)).setCell (p := ⟨W4.heap.size, 0, none⟩) (by show W.heap.size ≤ W4.heap.size; omega) (.slice ga (n + 1) gc))
          have KT := Lib.hid (show Kt W.heap.size [C1, C2, B1, B2] W1 (w'.setCell ⟨W4.heap.size, 0, none⟩ (.slice ga (n + 1) gc)) from ⟨QY.out, fun b hb hl => by
            have hbb : b ≠ W4.heap.size := by simp at hb; omega
            exact (Below.heap_setCell w' ⟨W4.heap.size, 0, none⟩ (.slice ga (n + 1) gc) b hbb).trans ((hgr.block b (by omega) (fun e => S.out.1.2.2 b hb (by rw [HEN.out.2]; exact e.symm))).trans ((q9.block b (by omega)).trans (Q23.out.block b hl)))⟩)
          have KF := Lib.hid (((keeps_below (m := 0) (n := W8.heap.size) Q23.out).trans (keeps_below (m := 0) (n := W8.heap.size) q9)).trans ((show KeepsFrom W8.heap.size (W9.alloc (.cells #[.int .u64 (lim p.key 0), .int .u64 (lim p.key 1), .int .u64 (lim p.key 2), .int .u64 (lim p.key 3), .int .u64 (lim v 0), .int .u64 (lim v 1), .int .u64 (lim v 2), .int .u64 (lim v 3)] 67)) w' from ⟨hgr.size, fun k o _ ho hc => (hgr.block k (Array.getElem?_eq_some_iff.1 ho).1 (fun e => by
            obtain ⟨_, cs', h'⟩ := hrow9.block e.symm
            rw [ho] at h'
            cases h'
            cases hc)).trans ho⟩).trans ((KeepsOthers.setCell w' ⟨W4.heap.size, 0, none⟩ (.slice ga (n + 1) gc)).from W8.heap.size)))
          have SN := Lib.hid (show LisSt W wt la lb f W.heap.size (W.heap.size + 1) (W.heap.size + 1 + 1) W4.heap.size W8.heap.size [C1, C2, B1, B2] (k + 1) (w'.setCell ⟨W4.heap.size, 0, none⟩ (.slice ga (n + 1) gc)) from ⟨_, ⟨U8.set 0 _, hrow'.keep (fun b cs hb ho => (Below.heap_setCell w' ⟨W4.heap.size, 0, none⟩ (.slice ga (n + 1) gc) b (fun e => by
              have e' : b = W4.heap.size := e
              rw [e', show w'.heap[W4.heap.size]? = _ from U8] at ho
              injection ho with ho
              injection ho with _ ho _
              exact absurd ho (by decide))).trans ho), fun b hb e => by
              rcases hnb with h | h
              · exact S.out.1.2.2 b hb (by rw [HEN.out.2]; exact h.symm.trans e)
              · rw [h] at e
                injection e with e
                simp at hb
                omega⟩, ⟨by rw [HEN.out.1, List.length_append, HEN.out.2]; simp; omega, fun x hx => by
              rw [HEN.out.1] at hx
              rcases List.mem_append.1 hx with hx | hx
              · exact S.out.2.1.2 x hx
              · simp at hx; subst hx; exact ⟨HWP.out.1, HN.out.1⟩⟩, ⟨U5.other (by show W.heap.size ≠ W4.heap.size; omega) _, U6.other (by show W.heap.size + 1 ≠ W4.heap.size; omega) _, U7.other (by show W.heap.size + 1 + 1 ≠ W4.heap.size; omega) _⟩, S.out.2.2.2.1.trans QY.out, by have := hgr.size; simp [World.setCell]; omega⟩)
          replace NS := Lib.hid NS
          replace q9 := Lib.hid q9
          replace hrow9 := Lib.hid hrow9
          replace hrow' := Lib.hid hrow'
          clear hown hgr hnb U5 U6 U7 U8 hTT hs44 hs33 hq99 h23 hb91 hs8 hl8 HB hsize hby hz hi KX
          gi_wp2_with (gi_at_builtin; refine wpListIn_append_run rfl (.tmp 38) (.tmp 42) 29 rfl _ _ _ rfl rfl hr ?_)
          exact ⟨KF.out, KT.out, SN.out⟩
    case done =>
      rintro D W1 hD hst hK
      obtain ⟨sv, ⟨s1, s2, s3⟩, ⟨s4, s5⟩, ⟨s6, s7, s8⟩, s9, s10⟩ := hst
      have eT : listF wt ((bothL la lb).take (bothL la lb).length) = listF wt (bothL la lb) := by rw [List.take_length]
      rw [eT] at s2 s4
      obtain ⟨ga, gc, rfl⟩ := s2.shape
      have c8 := s1.cell 0 _ rfl
      have c6 := s7.cell 0 _ rfl
      have f6 := s7.frozen 0
      have c7 := s8.cell 0 _ rfl
      have f7 := s8.frozen 0
      have hb1 := s9.size
      have hTT := hT.out
      have hss := Hs3.out
      have hs44 := hs4.out
      have A6 := (s7.set 0 (.slice ga (listF wt (bothL la lb)).length gc)).other (p := ⟨W.heap.size + 1 + 1, 0, none⟩) (by simp) (.int .i64 0)
      have A7 := (s8.other (p := ⟨W.heap.size + 1, 0, none⟩) (by simp) (.slice ga (listF wt (bothL la lb)).length gc)).set 0 (.int .i64 0)
      have QE := (s9.setCell (p := ⟨W.heap.size + 1, 0, none⟩) (by simp) (.slice ga (listF wt (bothL la lb)).length gc)).setCell (p := ⟨W.heap.size + 1 + 1, 0, none⟩) (by simp; omega) (.int .i64 0)
      have RE := (s2.keep (X := W1.setCell ⟨W.heap.size + 1, 0, none⟩ (.slice ga (listF wt (bothL la lb)).length gc)) (fun b cs hb ho => (Below.heap_setCell W1 ⟨W.heap.size + 1, 0, none⟩ (.slice ga (listF wt (bothL la lb)).length gc) b (fun e => by
        have e' : b = W.heap.size + 1 := e
        rw [e', show W1.heap[W.heap.size + 1]? = _ from s7] at ho
        injection ho with ho
        injection ho with _ ho _
        exact absurd ho (by decide))).trans ho)).keep (X := (W1.setCell ⟨W.heap.size + 1, 0, none⟩ (.slice ga (listF wt (bothL la lb)).length gc)).setCell ⟨W.heap.size + 1 + 1, 0, none⟩ (.int .i64 0)) (fun b cs hb ho => (Below.heap_setCell _ ⟨W.heap.size + 1 + 1, 0, none⟩ (.int .i64 0) b (fun e => by
        have e' : b = W.heap.size + 1 + 1 := e
        rw [e', show (W1.setCell ⟨W.heap.size + 1, 0, none⟩ (.slice ga (listF wt (bothL la lb)).length gc)).heap[W.heap.size + 1 + 1]? = _ from s8.other (p := ⟨W.heap.size + 1, 0, none⟩) (by simp) _] at ho
        injection ho with ho
        injection ho with _ ho _
        exact absurd ho (by decide))).trans ho)
      obtain ⟨WF, hWF⟩ : ∃ WF, (W1.setCell ⟨W.heap.size + 1, 0, none⟩ (.slice ga (listF wt (bothL la lb)).length gc)).setCell ⟨W.heap.size + 1 + 1, 0, none⟩ (.int .i64 0) = WF := ⟨_, rfl⟩
      have hq8s := Q8.out.size
      have hl8 := hlt8.out
      have h35 := hq8.out.size
      have hKF : WF.heap[D]? = some (.deferred (some [])) := by
        rw [← hWF]
        exact (Below.heap_setCell _ ⟨W.heap.size + 1 + 1, 0, none⟩ (.int .i64 0) D (by show D ≠ W.heap.size + 1 + 1; omega)).trans ((Below.heap_setCell _ ⟨W.heap.size + 1, 0, none⟩ (.slice ga (listF wt (bothL la lb)).length gc) D (by show D ≠ W.heap.size + 1; omega)).trans hK)
      rw [hWF] at A6 A7 QE RE
      have gD := grownBy_putObj' WF D (.deferred none)
      have eD : ∀ r, some D = some r → ∃ o : Obj, WF.heap[r]? = some o ∧ o.isCells = false := fun r e => by injection e with e; subst e; exact ⟨_, hKF, rfl⟩
      have B6 := Lib.hid (A6.own' gD eD)
      have B7 := Lib.hid (A7.own' gD eD)
      have KP := Lib.hid (show ListedP W wt la lb (.returned (.tuple #[.slice ga (listF wt (bothL la lb)).length gc, .int .i64 0])) (WF.putObj D (.deferred none)) from ⟨.inl ⟨s4, _, rfl, RE.own' gD eD⟩, below_own QE gD (Nat.le_refl _) (fun r e => by injection e with e; subst e; omega)⟩)
      replace hKF := Lib.hid hKF
      replace hWF := Lib.hid hWF
      replace hK := Lib.hid hK
      clear s1 s2 s3 s4 s5 s6 s7 s8 s9 s10 A6 A7 QE RE gD eD hb1 hTT hss hs44 HSEQ HST0 HA HB HW HL hq8s hl8 h35
      gi_wp2_with fail
      rw [hWF.out]
      have b6 := B6.out.cell 0 _ rfl
      have b7 := B7.out.cell 0 _ rfl
      refine ⟨by simp, .inl ⟨_, _, rfl, run_takeDeferred hKF.out, ?_⟩⟩
      exact ⟨_, by simp [results, Tryz.results148, go_sem, b6, b7], KP.out⟩
    case stop =>
      rintro D c k W1 hD hk ⟨rfl, s1, s2, s3, s4⟩ hK
      have gD := grownBy_putObj' W1 D (.deferred none)
      have eD : ∀ r, some D = some r → ∃ o : Obj, W1.heap[r]? = some o ∧ o.isCells = false := fun r e => by injection e with e; subst e; exact ⟨_, hK, rfl⟩
      have B6 := Lib.hid (s2.own' gD eD)
      have B7 := Lib.hid (s3.own' gD eD)
      have hq8s := Q8.out.size
      have KP := Lib.hid (show ListedP W wt la lb (.returned (.tuple #[.slice none 0 0, .int .i64 2])) (W1.putObj D (.deferred none)) from ⟨.inr ⟨s1, rfl⟩, below_own s4 gD (Nat.le_refl _) (fun r e => by injection e with e; subst e; omega)⟩)
      replace hK := Lib.hid hK
      clear s1 s2 s3 s4 gD eD HSEQ HST0 HA HB HW HL
      gi_wp2_with fail
      have b6 := B6.out.cell 0 _ rfl
      have b7 := B7.out.cell 0 _ rfl
      refine ⟨by simp, .inl ⟨_, _, rfl, run_takeDeferred hK.out, ?_⟩⟩
      exact ⟨_, by simp [results, Tryz.results148, go_sem, b6, b7], KP.out⟩
end Go.Proofs.YtadfkiebblmfkaaGreatDoor
