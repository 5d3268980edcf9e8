/- Part. -/
import Derived.BigRegion
import Derived.Test.YtkicmbdjihjgfaaGreatDoorH06
import Derived.Deep.AppendSrc
import Derived.Laws.AppendOwn
import Derived.Test.YtkicmbdjihjgfaaGreatDoorH01
set_option maxRecDepth 100000
set_option maxHeartbeats 16000000
namespace Go.Proofs.YtkicmbdjihjgfaaGreatDoor
section
open Go Go.RowKit
attribute [local go_sem] Oper.semAt_some Grows wide_fn eq4
def WantOK (f : FuncId) (wt : Pr → Option Nat) : Prop := ∀ (W : World) (p : Pr), W256 p.fst → W256 p.snd → Calls Tryz.prog f #[prV p] W fun e w' => ∃ v b, e = .returned (.tuple #[wv v, .bool b]) ∧ W256 v ∧ wt p = (if b = true then some v else none) ∧ Below W.heap.size W w'
theorem nz_bool (a b c d : Int) : ((!(a == 0)) || (!(b == 0)) || (!(c == 0)) || (!(d == 0))) = !(a == 0 && b == 0 && c == 0 && d == 0) := by simp [Bool.not_and]
theorem results_wb {fn : Func} {t u : Tmp} {tmps : Array Value} {W : World} {B : Nat} {v0 v1 v2 v3 : Value} (h : fn.results = #[ResultVar.cell t 28, ResultVar.tmp u]) (ht : tmps.getD t undef = .pointer (some ⟨B, 0, none⟩)) (hA : Has W B 28 #[v0, v1, v2, v3]) :
  (results fn tmps).run Tryz.prog W = .ok (.tuple #[.agg #[v0, v1, v2, v3], tmps.getD u undef]) W := by
 have e0 := hA.cell 0 _ rfl
 have e1 := hA.cell 1 _ rfl
 have e2 := hA.cell 2 _ rfl
 have e3 := hA.cell 3 _ rfl
 simp at ht
 simp [results, h, ht, go_sem, e0, e1, e2, e3]
theorem behind_ok : WantOK 147 behindF := by
 intro W p hf hs
 obtain ⟨k, fst, snd, ins⟩ := p
 simp only at hf hs
 have hmx : Tryz.prog.follows .mixedOrders = true := by kernel_rfl
 have hz1 := zero_w fst hf
 have hz2 := zero_w snd hs
 cases ins
 ·have HB := hid (show W256 fst ∧ behindF ⟨k, fst, snd, false⟩ = (if ((!(lim fst 0 == 0)) || (!(lim fst 1 == 0)) || (!(lim fst 2 == 0)) || (!(lim fst 3 == 0))) = true then some fst else none) from ⟨hf, by
   rw [nz_bool, hz1]
   unfold behindF
   by_cases h0 : fst = 0 <;> simp [h0]⟩)
  have hfin := hid (show ∀ X, Below W.heap.size W X → ∃ v b, Ending.returned (.tuple #[.agg #[.int .u64 (lim fst 0), .int .u64 (lim fst 1), .int .u64 (lim fst 2), .int .u64 (lim fst 3)], .bool ((!(lim fst 0 == 0)) || (!(lim fst 1 == 0)) || (!(lim fst 2 == 0)) || (!(lim fst 3 == 0)))]) = .returned (.tuple #[wv v, .bool b]) ∧ W256 v ∧ behindF ⟨k, fst, snd, false⟩ = (if b = true then some v else none) ∧ Below W.heap.size W X from fun X hX => ⟨fst, _, rfl, HB.out.1, HB.out.2, hX⟩)
  obtain ⟨Post, hPost⟩ : ∃ Post : Ending → World → Prop, (fun (e : Ending) (w' : World) => ∃ v b, e = .returned (.tuple #[wv v, .bool b]) ∧ W256 v ∧ behindF ⟨k, fst, snd, false⟩ = (if b = true then some v else none) ∧ Below W.heap.size W w') = Post := ⟨_, rfl⟩
  replace hfin := hid (show ∀ X, Below W.heap.size W X → Post (.returned (.tuple #[.agg #[.int .u64 (lim fst 0), .int .u64 (lim fst 1), .int .u64 (lim fst 2), .int .u64 (lim fst 3)], .bool ((!(lim fst 0 == 0)) || (!(lim fst 1 == 0)) || (!(lim fst 2 == 0)) || (!(lim fst 3 == 0)))])) X by rw [← hPost]; exact hfin.out)
  rw [hPost]
  clear hPost HB hz1 hz2 hf hs
  unfold prV
  simp only
  generalize lim fst 0 = f0 at *
  generalize lim snd 0 = s0 at *
  generalize lim fst 1 = f1 at *
  generalize lim snd 1 = s1 at *
  generalize lim fst 2 = f2 at *
  generalize lim snd 2 = s2 at *
  generalize lim fst 3 = f3 at *
  generalize lim snd 3 = s3 at *
  have LP := ((Has.new W 191 #[.int .u64 f0, .int .u64 f1, .int .u64 f2, .int .u64 f3, .int .u64 s0, .int .u64 s1, .int .u64 s2, .int .u64 s3, .bool false]).alloc (.cells #[.int .u64 0, .int .u64 0, .int .u64 0, .int .u64 0] 28)).alloc (.cells #[.int .u64 f0, .int .u64 f1, .int .u64 f2, .int .u64 f3] 28)
  have LR := (Has.new (W.alloc (.cells #[.int .u64 f0, .int .u64 f1, .int .u64 f2, .int .u64 f3, .int .u64 s0, .int .u64 s1, .int .u64 s2, .int .u64 s3, .bool false] 191)) 28 #[.int .u64 0, .int .u64 0, .int .u64 0, .int .u64 0]).alloc (.cells #[.int .u64 f0, .int .u64 f1, .int .u64 f2, .int .u64 f3] 28)
  have LP0 := (Has.new W 191 #[.int .u64 f0, .int .u64 f1, .int .u64 f2, .int .u64 f3, .int .u64 s0, .int .u64 s1, .int .u64 s2, .int .u64 s3, .bool false]).alloc (.cells #[.int .u64 0, .int .u64 0, .int .u64 0, .int .u64 0] 28)
  have LP1 := LP0.alloc (.cells #[.int .u64 0, .int .u64 0, .int .u64 0, .int .u64 0] 28)
  have NV := Has.new ((W.alloc (.cells #[.int .u64 f0, .int .u64 f1, .int .u64 f2, .int .u64 f3, .int .u64 s0, .int .u64 s1, .int .u64 s2, .int .u64 s3, .bool false] 191)).alloc (.cells #[.int .u64 0, .int .u64 0, .int .u64 0, .int .u64 0] 28)) 28 #[.int .u64 0, .int .u64 0, .int .u64 0, .int .u64 0]
  have LV := Has.new ((W.alloc (.cells #[.int .u64 f0, .int .u64 f1, .int .u64 f2, .int .u64 f3, .int .u64 s0, .int .u64 s1, .int .u64 s2, .int .u64 s3, .bool false] 191)).alloc (.cells #[.int .u64 0, .int .u64 0, .int .u64 0, .int .u64 0] 28)) 28 #[.int .u64 f0, .int .u64 f1, .int .u64 f2, .int .u64 f3]
  simp only [World.size_alloc] at LR NV LV
  have QQ := ((newA W (.cells #[.int .u64 f0, .int .u64 f1, .int .u64 f2, .int .u64 f3, .int .u64 s0, .int .u64 s1, .int .u64 s2, .int .u64 s3, .bool false] 191)).alloc (by simp) (.cells #[.int .u64 0, .int .u64 0, .int .u64 0, .int .u64 0] 28)).alloc (by simp; omega) (.cells #[.int .u64 f0, .int .u64 f1, .int .u64 f2, .int .u64 f3] 28)
  have a0 := LP0.cell 0 _ rfl
  have n0 := NV.cell 0 _ rfl
  have nf0 := NV.frozen 0
  have v0 := LV.cell 0 _ rfl
  have vf0 := LV.frozen 0
  have a1 := LP0.cell 1 _ rfl
  have n1 := NV.cell 1 _ rfl
  have nf1 := NV.frozen 1
  have v1 := LV.cell 1 _ rfl
  have vf1 := LV.frozen 1
  have a2 := LP0.cell 2 _ rfl
  have n2 := NV.cell 2 _ rfl
  have nf2 := NV.frozen 2
  have v2 := LV.cell 2 _ rfl
  have vf2 := LV.frozen 2
  have a3 := LP0.cell 3 _ rfl
  have n3 := NV.cell 3 _ rfl
  have nf3 := NV.frozen 3
  have v3 := LV.cell 3 _ rfl
  have vf3 := LV.frozen 3
  have a8 := LP.cell 8 _ rfl
  replace LP := hid LP
  replace LP0 := hid LP0
  replace LP1 := hid LP1
  replace LR := hid LR
  replace NV := hid NV
  replace LV := hid LV
  replace QQ := hid QQ
  go_enter Tryz.func147, Tryz.ntmps147
  go_wp2_with fail
  clear a0 n0 nf0 v0 vf0 a1 n1 nf1 v1 vf1 a2 n2 nf2 v2 vf2 a3 n3 nf3 v3 vf3 a8 LP LP0 LP1 NV LV LR QQ
  have LR := (Has.new (W.alloc (.cells #[.int .u64 f0, .int .u64 f1, .int .u64 f2, .int .u64 f3, .int .u64 s0, .int .u64 s1, .int .u64 s2, .int .u64 s3, .bool false] 191)) 28 #[.int .u64 0, .int .u64 0, .int .u64 0, .int .u64 0]).alloc (.cells #[.int .u64 f0, .int .u64 f1, .int .u64 f2, .int .u64 f3] 28)
  have LV := Has.new ((W.alloc (.cells #[.int .u64 f0, .int .u64 f1, .int .u64 f2, .int .u64 f3, .int .u64 s0, .int .u64 s1, .int .u64 s2, .int .u64 s3, .bool false] 191)).alloc (.cells #[.int .u64 0, .int .u64 0, .int .u64 0, .int .u64 0] 28)) 28 #[.int .u64 f0, .int .u64 f1, .int .u64 f2, .int .u64 f3]
  simp only [World.size_alloc] at LR LV
  have QQ := ((newA W (.cells #[.int .u64 f0, .int .u64 f1, .int .u64 f2, .int .u64 f3, .int .u64 s0, .int .u64 s1, .int .u64 s2, .int .u64 s3, .bool false] 191)).alloc (by simp) (.cells #[.int .u64 0, .int .u64 0, .int .u64 0, .int .u64 0] 28)).alloc (by simp; omega) (.cells #[.int .u64 f0, .int .u64 f1, .int .u64 f2, .int .u64 f3] 28)
  obtain ⟨W2, hW2⟩ : ∃ W2, ((W.alloc (.cells #[.int .u64 f0, .int .u64 f1, .int .u64 f2, .int .u64 f3, .int .u64 s0, .int .u64 s1, .int .u64 s2, .int .u64 s3, .bool false] 191)).alloc (.cells #[.int .u64 0, .int .u64 0, .int .u64 0, .int .u64 0] 28)).alloc (.cells #[.int .u64 f0, .int .u64 f1, .int .u64 f2, .int .u64 f3] 28) = W2 := ⟨_, rfl⟩
  rw [hW2] at LR LV QQ ⊢
  clear hW2
  have LR2 := hid ((((LR.set 0 (.int .u64 f0)).set 1 (.int .u64 f1)).set 2 (.int .u64 f2)).set 3 (.int .u64 f3))
  have QQ2 := hid ((((QQ.setCell (p := ⟨(W.heap.size + 1), 0, none⟩) (by simp) (.int .u64 f0)).setCell (p := ⟨(W.heap.size + 1), 1, none⟩) (by simp) (.int .u64 f1)).setCell (p := ⟨(W.heap.size + 1), 2, none⟩) (by simp) (.int .u64 f2)).setCell (p := ⟨(W.heap.size + 1), 3, none⟩) (by simp) (.int .u64 f3))
  have x0 := LR.cell 0 _ rfl
  have f0' := LR.frozen 0
  have y0 := LV.cell 0 _ rfl
  have x1 := LR.cell 1 _ rfl
  have f1' := LR.frozen 1
  have y1 := LV.cell 1 _ rfl
  have x2 := LR.cell 2 _ rfl
  have f2' := LR.frozen 2
  have y2 := LV.cell 2 _ rfl
  have x3 := LR.cell 3 _ rfl
  have f3' := LR.frozen 3
  have y3 := LV.cell 3 _ rfl
  replace LR := hid LR
  replace LV := hid LV
  replace QQ := hid QQ
  go_region
  all_goals (go_wp2_with fail)
  all_goals (refine bodyPost_ret (results_wb rfl rfl LR2.out) rfl ?_)
  all_goals (exact hfin.out _ QQ2.out.drew)
 ·have HB := hid (show W256 snd ∧ behindF ⟨k, fst, snd, true⟩ = (if ((!(lim snd 0 == 0)) || (!(lim snd 1 == 0)) || (!(lim snd 2 == 0)) || (!(lim snd 3 == 0))) = true then some snd else none) from ⟨hs, by
   rw [nz_bool, hz2]
   unfold behindF
   by_cases h0 : snd = 0 <;> simp [h0]⟩)
  have hfin := hid (show ∀ X, Below W.heap.size W X → ∃ v b, Ending.returned (.tuple #[.agg #[.int .u64 (lim snd 0), .int .u64 (lim snd 1), .int .u64 (lim snd 2), .int .u64 (lim snd 3)], .bool ((!(lim snd 0 == 0)) || (!(lim snd 1 == 0)) || (!(lim snd 2 == 0)) || (!(lim snd 3 == 0)))]) = .returned (.tuple #[wv v, .bool b]) ∧ W256 v ∧ behindF ⟨k, fst, snd, true⟩ = (if b = true then some v else none) ∧ Below W.heap.size W X from fun X hX => ⟨snd, _, rfl, HB.out.1, HB.out.2, hX⟩)
  obtain ⟨Post, hPost⟩ : ∃ Post : Ending → World → Prop, (fun (e : Ending) (w' : World) => ∃ v b, e = .returned (.tuple #[wv v, .bool b]) ∧ W256 v ∧ behindF ⟨k, fst, snd, true⟩ = (if b = true then some v else none) ∧ Below W.heap.size W w') = Post := ⟨_, rfl⟩
  replace hfin := hid (show ∀ X, Below W.heap.size W X → Post (.returned (.tuple #[.agg #[.int .u64 (lim snd 0), .int .u64 (lim snd 1), .int .u64 (lim snd 2), .int .u64 (lim snd 3)], .bool ((!(lim snd 0 == 0)) || (!(lim snd 1 == 0)) || (!(lim snd 2 == 0)) || (!(lim snd 3 == 0)))])) X by rw [← hPost]; exact hfin.out)
  rw [hPost]
  clear hPost HB hz1 hz2 hf hs
  unfold prV
  simp only
  generalize lim fst 0 = f0 at *
  generalize lim snd 0 = s0 at *
  generalize lim fst 1 = f1 at *
  generalize lim snd 1 = s1 at *
  generalize lim fst 2 = f2 at *
  generalize lim snd 2 = s2 at *
  generalize lim fst 3 = f3 at *
  generalize lim snd 3 = s3 at *
  have LP := ((Has.new W 191 #[.int .u64 f0, .int .u64 f1, .int .u64 f2, .int .u64 f3, .int .u64 s0, .int .u64 s1, .int .u64 s2, .int .u64 s3, .bool true]).alloc (.cells #[.int .u64 0, .int .u64 0, .int .u64 0, .int .u64 0] 28)).alloc (.cells #[.int .u64 f0, .int .u64 f1, .int .u64 f2, .int .u64 f3] 28)
  have LR := (Has.new (W.alloc (.cells #[.int .u64 f0, .int .u64 f1, .int .u64 f2, .int .u64 f3, .int .u64 s0, .int .u64 s1, .int .u64 s2, .int .u64 s3, .bool true] 191)) 28 #[.int .u64 0, .int .u64 0, .int .u64 0, .int .u64 0]).alloc (.cells #[.int .u64 f0, .int .u64 f1, .int .u64 f2, .int .u64 f3] 28)
  have LP0 := (Has.new W 191 #[.int .u64 f0, .int .u64 f1, .int .u64 f2, .int .u64 f3, .int .u64 s0, .int .u64 s1, .int .u64 s2, .int .u64 s3, .bool true]).alloc (.cells #[.int .u64 0, .int .u64 0, .int .u64 0, .int .u64 0] 28)
  have LP1 := LP0.alloc (.cells #[.int .u64 0, .int .u64 0, .int .u64 0, .int .u64 0] 28)
  have NV := Has.new ((W.alloc (.cells #[.int .u64 f0, .int .u64 f1, .int .u64 f2, .int .u64 f3, .int .u64 s0, .int .u64 s1, .int .u64 s2, .int .u64 s3, .bool true] 191)).alloc (.cells #[.int .u64 0, .int .u64 0, .int .u64 0, .int .u64 0] 28)) 28 #[.int .u64 0, .int .u64 0, .int .u64 0, .int .u64 0]
  have LV := Has.new ((W.alloc (.cells #[.int .u64 f0, .int .u64 f1, .int .u64 f2, .int .u64 f3, .int .u64 s0, .int .u64 s1, .int .u64 s2, .int .u64 s3, .bool true] 191)).alloc (.cells #[.int .u64 0, .int .u64 0, .int .u64 0, .int .u64 0] 28)) 28 #[.int .u64 f0, .int .u64 f1, .int .u64 f2, .int .u64 f3]
  simp only [World.size_alloc] at LR NV LV
  have QQ := ((newA W (.cells #[.int .u64 f0, .int .u64 f1, .int .u64 f2, .int .u64 f3, .int .u64 s0, .int .u64 s1, .int .u64 s2, .int .u64 s3, .bool true] 191)).alloc (by simp) (.cells #[.int .u64 0, .int .u64 0, .int .u64 0, .int .u64 0] 28)).alloc (by simp; omega) (.cells #[.int .u64 f0, .int .u64 f1, .int .u64 f2, .int .u64 f3] 28)
  have a0 := LP0.cell 0 _ rfl
  have n0 := NV.cell 0 _ rfl
  have nf0 := NV.frozen 0
  have v0 := LV.cell 0 _ rfl
  have vf0 := LV.frozen 0
  have a1 := LP0.cell 1 _ rfl
  have n1 := NV.cell 1 _ rfl
  have nf1 := NV.frozen 1
  have v1 := LV.cell 1 _ rfl
  have vf1 := LV.frozen 1
  have a2 := LP0.cell 2 _ rfl
  have n2 := NV.cell 2 _ rfl
  have nf2 := NV.frozen 2
  have v2 := LV.cell 2 _ rfl
  have vf2 := LV.frozen 2
  have a3 := LP0.cell 3 _ rfl
  have n3 := NV.cell 3 _ rfl
  have nf3 := NV.frozen 3
  have v3 := LV.cell 3 _ rfl
  have vf3 := LV.frozen 3
  have a4 := LP.cell 4 _ rfl
  have a5 := LP.cell 5 _ rfl
  have a6 := LP.cell 6 _ rfl
  have a7 := LP.cell 7 _ rfl
  have a8 := LP.cell 8 _ rfl
  replace LP := hid LP
  replace LP0 := hid LP0
  replace LP1 := hid LP1
  replace LR := hid LR
  replace NV := hid NV
  replace LV := hid LV
  replace QQ := hid QQ
  go_enter Tryz.func147, Tryz.ntmps147
  go_wp2_with fail
  clear a0 n0 nf0 v0 vf0 a1 n1 nf1 v1 vf1 a2 n2 nf2 v2 vf2 a3 n3 nf3 v3 vf3 a8 a4 a5 a6 a7 LP LP0 LP1 NV LV LR QQ
  have LR := (Has.new (W.alloc (.cells #[.int .u64 f0, .int .u64 f1, .int .u64 f2, .int .u64 f3, .int .u64 s0, .int .u64 s1, .int .u64 s2, .int .u64 s3, .bool true] 191)) 28 #[.int .u64 0, .int .u64 0, .int .u64 0, .int .u64 0]).alloc (.cells #[.int .u64 s0, .int .u64 s1, .int .u64 s2, .int .u64 s3] 28)
  have LV := Has.new ((W.alloc (.cells #[.int .u64 f0, .int .u64 f1, .int .u64 f2, .int .u64 f3, .int .u64 s0, .int .u64 s1, .int .u64 s2, .int .u64 s3, .bool true] 191)).alloc (.cells #[.int .u64 0, .int .u64 0, .int .u64 0, .int .u64 0] 28)) 28 #[.int .u64 s0, .int .u64 s1, .int .u64 s2, .int .u64 s3]
  simp only [World.size_alloc] at LR LV
  have QQ := ((newA W (.cells #[.int .u64 f0, .int .u64 f1, .int .u64 f2, .int .u64 f3, .int .u64 s0, .int .u64 s1, .int .u64 s2, .int .u64 s3, .bool true] 191)).alloc (by simp) (.cells #[.int .u64 0, .int .u64 0, .int .u64 0, .int .u64 0] 28)).alloc (by simp; omega) (.cells #[.int .u64 s0, .int .u64 s1, .int .u64 s2, .int .u64 s3] 28)
  obtain ⟨W2, hW2⟩ : ∃ W2, ((W.alloc (.cells #[.int .u64 f0, .int .u64 f1, .int .u64 f2, .int .u64 f3, .int .u64 s0, .int .u64 s1, .int .u64 s2, .int .u64 s3, .bool true] 191)).alloc (.cells #[.int .u64 0, .int .u64 0, .int .u64 0, .int .u64 0] 28)).alloc (.cells #[.int .u64 s0, .int .u64 s1, .int .u64 s2, .int .u64 s3] 28) = W2 := ⟨_, rfl⟩
  rw [hW2] at LR LV QQ ⊢
  clear hW2
  have LR2 := hid ((((LR.set 0 (.int .u64 s0)).set 1 (.int .u64 s1)).set 2 (.int .u64 s2)).set 3 (.int .u64 s3))
  have QQ2 := hid ((((QQ.setCell (p := ⟨(W.heap.size + 1), 0, none⟩) (by simp) (.int .u64 s0)).setCell (p := ⟨(W.heap.size + 1), 1, none⟩) (by simp) (.int .u64 s1)).setCell (p := ⟨(W.heap.size + 1), 2, none⟩) (by simp) (.int .u64 s2)).setCell (p := ⟨(W.heap.size + 1), 3, none⟩) (by simp) (.int .u64 s3))
  have x0 := LR.cell 0 _ rfl
  have f0' := LR.frozen 0
  have y0 := LV.cell 0 _ rfl
  have x1 := LR.cell 1 _ rfl
  have f1' := LR.frozen 1
  have y1 := LV.cell 1 _ rfl
  have x2 := LR.cell 2 _ rfl
  have f2' := LR.frozen 2
  have y2 := LV.cell 2 _ rfl
  have x3 := LR.cell 3 _ rfl
  have f3' := LR.frozen 3
  have y3 := LV.cell 3 _ rfl
  replace LR := hid LR
  replace LV := hid LV
  replace QQ := hid QQ
  go_region
  all_goals (go_wp2_with fail)
  all_goals (refine bodyPost_ret (results_wb rfl rfl LR2.out) rfl ?_)
  all_goals (exact hfin.out _ QQ2.out.drew)
theorem both_any (W : World) (n1 n2 B1 B2 : Nat) :
  Calls Tryz.prog 157 #[tabV n1 B1, tabV n2 B2] W fun e w' => ∃ C1 C2, e = .returned (.func (.func 164) #[] #[.pointer (some ⟨C1, 0, none⟩), .pointer (some ⟨C2, 0, none⟩)]) ∧ W.heap.size ≤ C1 ∧ W.heap.size ≤ C2 ∧ Has w' C1 174 #[.int .i64 ((n1 : Nat) : Int), .func (.func 154) #[] #[.pointer (some ⟨B1, 0, none⟩)], .func (.func 155) #[] #[.pointer (some ⟨B1, 0, none⟩)], .func (.func 156) #[] #[]] ∧ Has w' C2 174 #[.int .i64 ((n2 : Nat) : Int), .func (.func 154) #[] #[.pointer (some ⟨B2, 0, none⟩)], .func (.func 155) #[] #[.pointer (some ⟨B2, 0, none⟩)], .func (.func 156) #[] #[]] ∧ Below W.heap.size W w' := by
 have L1 := hid ((Has.new W 174 #[.int .i64 ((n1 : Nat) : Int), .func (.func 154) #[] #[.pointer (some ⟨B1, 0, none⟩)], .func (.func 155) #[] #[.pointer (some ⟨B1, 0, none⟩)], .func (.func 156) #[] #[]]).alloc (.cells #[.int .i64 ((n2 : Nat) : Int), .func (.func 154) #[] #[.pointer (some ⟨B2, 0, none⟩)], .func (.func 155) #[] #[.pointer (some ⟨B2, 0, none⟩)], .func (.func 156) #[] #[]] 174))
 have L2 := Has.new (W.alloc (.cells #[.int .i64 ((n1 : Nat) : Int), .func (.func 154) #[] #[.pointer (some ⟨B1, 0, none⟩)], .func (.func 155) #[] #[.pointer (some ⟨B1, 0, none⟩)], .func (.func 156) #[] #[]] 174)) 174 #[.int .i64 ((n2 : Nat) : Int), .func (.func 154) #[] #[.pointer (some ⟨B2, 0, none⟩)], .func (.func 155) #[] #[.pointer (some ⟨B2, 0, none⟩)], .func (.func 156) #[] #[]]
 simp only [World.size_alloc] at L2
 have L2 := hid L2
 have Q := hid ((newA W (.cells #[.int .i64 ((n1 : Nat) : Int), .func (.func 154) #[] #[.pointer (some ⟨B1, 0, none⟩)], .func (.func 155) #[] #[.pointer (some ⟨B1, 0, none⟩)], .func (.func 156) #[] #[]] 174)).alloc (by simp) (.cells #[.int .i64 ((n2 : Nat) : Int), .func (.func 154) #[] #[.pointer (some ⟨B2, 0, none⟩)], .func (.func 155) #[] #[.pointer (some ⟨B2, 0, none⟩)], .func (.func 156) #[] #[]] 174))
 go_enter Tryz.func157, Tryz.ntmps157
 go_wp2_with fail
 go_ret
 exact ⟨W.heap.size, W.heap.size + 1, rfl, Nat.le_refl _, by omega, L1.out, L2.out, Q.out⟩
end
section
open Go Go.RowKit
variable {P : Program} (w : World)
def NewBlock (w : World) (v v' : Value) : Prop := v'.ownBlock = v.ownBlock ∨ v'.ownBlock = some w.heap.size
theorem run_append_str (base : Nat) (t u ty e : TypeId) (i : TypeInfo) (z : Value) (ht : P.underlying t = some (.slice e)) (hu : P.underlying u = some .string) (hi : P.info? e = some i) (hz : i.zero = some z)
  (hsize : i.size = 1) (hby : i.bytes = 1) (hzs : z.cells.size = 1) (v : Value) (n : Nat) (xs : List Value) (hown : w.ownsRow base e 1 v n xs) (s : ByteArray)
  (hb : n + s.size ≤ 140737488355328) (hbase : base ≤ w.heap.size) :
  ∃ v' w', (Builtin.append_ #[t, u] ty #[v, .string s]).run P w = .ok v' w' ∧ w'.ownsRow base e 1 v' (n + s.size) (xs ++ byteCells s) ∧ w.grownBy w' v.ownBlock ∧ NewBlock w v v' := by
 have hl := byteCells_length s
 have hsrc : Src P i.size u (.string s) s.size (byteCells s) w := by rw [hsize]; exact Src.ofString w hu s
 have h63 : n + s.size ≤ maxLen := by simp only [maxLen]; omega
 have hlen : (xs ++ byteCells s).length = (n + s.size) * 1 := by rw [List.length_append, hown.1, hl]; omega
 have grown : ∀ (old : Nat), old < n + s.size → ∀ (row : Option Nat),
   (w.drew.alloc (.cells (xs.toArray ++ (byteCells s).toArray ++ Builtin.zeroCells z.cells (grownCap w (n + s.size) old e - (n + s.size))) e)).ownsRow base e 1
    (.slice (some ⟨w.heap.size, 0, none⟩) (n + s.size) (grownCap w (n + s.size) old e)) (n + s.size) (xs ++ byteCells s) ∧
   w.grownBy (w.drew.alloc (.cells (xs.toArray ++ (byteCells s).toArray ++ Builtin.zeroCells z.cells (grownCap w (n + s.size) old e - (n + s.size))) e)) row := by
  intro old ho row
  have hge := grownCap_ge w (n + s.size) old e
  have hcm : grownCap w (n + s.size) old e ≤ maxLen := grownCap_le_maxLen w (n + s.size) old e h63
  refine ⟨⟨hlen, .inr ⟨w.heap.size, _, _, rfl, hbase, heap_alloc_new w.drew _, hge, hcm, ?_, ?_⟩⟩, ⟨rfl, rfl, rfl, by simp, fun k hk _ => Below.heap_alloc w.drew _ k hk⟩⟩
  ·simp only [Array.size_append, List.size_toArray, size_zeroCells, hzs, hown.1, hl]
   omega
  ·simp only [Array.toList_append, List.append_assoc]
   rw [← List.append_assoc, ← hlen]
   exact List.take_left
 rcases hown.2 with ⟨rfl, rfl⟩ | ⟨g, cap, cur, rfl, hbg, hg, hnc, hcm, hcs, htake⟩
 ·have hx : xs = [] := List.eq_nil_of_length_eq_zero (by simpa using hown.1)
  subst hx
  by_cases hm : s.size = 0
  ·obtain rfl : s = ByteArray.empty := ByteArray.ext (Array.eq_empty_of_size_eq_zero hm)
   refine ⟨.slice none 0 0, w, ?_, World.ownsRow_nil w base e 1, ⟨rfl, rfl, rfl, Nat.le_refl _, fun _ _ _ => rfl⟩, .inl rfl⟩
   simp [Builtin.append_, run_underlying ht, run_underlying hu, sizeOf, typeInfo, hi, Builtin.lenOf, Builtin.firstCells]
  ·have hr := run_append_grow_src (P := P) w t u ty e i z ht hi hz none 0 0 [] (by simp [Builtin.firstCells]) (.string s) s.size (byteCells s) hsrc (by omega) (by simp only [maxLen] at h63; omega) (growslice_fits (by omega) (by rw [hby]; omega))
   have hgr := grown 0 (by omega) (Value.ownBlock (.slice none 0 0))
   simp only [List.nil_append, Array.empty_append, Nat.zero_add] at hr hgr ⊢
   exact ⟨_, _, hr, hgr.1, hgr.2, .inr rfl⟩
 ·by_cases hroom : n + s.size ≤ cap
  ·have hfit : n * 1 + (byteCells s).length ≤ cur.size := by rw [hl, hcs]; omega
   have hst := run_storeCells_at P g (n * i.size) e (byteCells s) 0 cur w hg (by rw [hsize]; simpa using hfit) hsrc.one
   simp only [Nat.add_zero] at hst
   have hr : (Builtin.append_ #[t, u] ty #[.slice (some ⟨g, 0, none⟩) n cap, .string s]).run P w = .ok (.slice (some ⟨g, 0, none⟩) (n + s.size) cap) (w.setRow g (cur.toList.take (n * i.size) ++ byteCells s ++ cur.toList.drop (n * i.size + (byteCells s).length)).toArray) := by
    simp [Builtin.append_, run_underlying ht, run_underlying hu, sizeOf, typeInfo, hi, Builtin.lenOf, hroom, hsrc.cells, Addr.add_lit, hst]
   rw [hsize] at hr
   refine ⟨_, _, hr, ⟨hlen, .inr ⟨g, cap, _, rfl, hbg, setRow_heap w g cur _ e _ hg, hroom, hcm, ?_, ?_⟩⟩, ⟨rfl, rfl, rfl, by simp, fun k _ hk => setRow_other w g k _ (fun e => hk (by simp [Value.ownBlock, e]))⟩, .inl rfl⟩
   ·simp only [List.size_toArray, List.length_append, List.length_take, List.length_drop, Array.length_toList]
    omega
   ·rw [htake, ← hlen]
    exact List.take_left
  ·have holds : (Builtin.firstCells i.size n (.slice (some ⟨g, 0, none⟩) n cap)).run P w.drew = .ok xs.toArray w.drew := by
    rw [hsize]
    exact run_firstCells_some w.drew 1 n ⟨g, 0, none⟩ n cap xs hown.1 (fun j u hj => by
     have := hown.cells (g := g) rfl j u hj
     simpa using this)
   have hr := run_append_grow_src (P := P) w t u ty e i z ht hi hz (some ⟨g, 0, none⟩) n cap xs holds (.string s) s.size (byteCells s) hsrc (by omega) (by simp only [maxLen] at h63; omega) (growslice_fits (by omega) (by rw [hby]; omega))
   have hgr := grown cap (by omega) (Value.ownBlock (.slice (some ⟨g, 0, none⟩) n cap))
   have hap : ((xs ++ byteCells s).toArray : Array Value) = xs.toArray ++ (byteCells s).toArray := by simp
   rw [hap] at hr
   exact ⟨_, _, hr, hgr.1, hgr.2, .inr rfl⟩
theorem wpList_append_str {ops : Array Oper} {rest : List Oper} {o : Oper} {a : Act} {Q : Exit → Act → World → Prop} (hgd : o.guard = none) (s x : Operand) (t u : TypeId)
  (ho : o.op = .call { callee := .builtin .append, args := #[s, x], argTypes := #[t, u] })
  (base : Nat) (e : TypeId) (i : TypeInfo) (z : Value) (ht : P.underlying t = some (.slice e)) (hu : P.underlying u = some .string) (hi : P.info? e = some i) (hz : i.zero = some z)
  (hsize : i.size = 1) (hby : i.bytes = 1) (hzs : z.cells.size = 1) (v : Value) (n : Nat) (xs : List Value) (hs : a.eval s = v) (hown : w.ownsRow base e 1 v n xs) (str : ByteArray) (hx : a.eval x = .string str)
  (hb : n + str.size ≤ 140737488355328) (hbase : base ≤ w.heap.size)
  (h : ∀ v' w', w'.ownsRow base e 1 v' (n + str.size) (xs ++ byteCells str) → w.grownBy w' v.ownBlock → NewBlock w v v' → wpList P ops Q rest (a.put o.dst v') w') : wpList P ops Q (o :: rest) a w := by
 refine wpList_plain hgd fun K hK => ?_
 obtain ⟨v', w', hr, h2, h3, h4⟩ := run_append_str (P := P) w base t u o.type e i z ht hu hi hz hsize hby hzs v n xs hown str hb hbase
 unfold Oper.wp execOp
 simp only [ho, resolve, invoke, builtin, Sem.run_bind, Sem.run_pure, Result.andThen_ok, List.map_toArray, List.map_cons, List.map_nil, hs, hx, hr]
 exact hK _ _ (h v' w' h2 h3 h4)
end
section
open Go Go.RowKit
variable {P : Program} (w : World)
theorem run_append_src (base : Nat) (t tx ty e : TypeId) (i : TypeInfo) (z : Value) (size bytes : Nat) (ht : P.underlying t = some (.slice e)) (hi : P.info? e = some i) (hz : i.zero = some z)
  (hsize : i.size = size) (hby : i.bytes = bytes) (hzs : z.cells.size = size) (hs0 : 0 < size) (v : Value) (n : Nat) (xs : List Value) (hown : w.ownsRow base e size v n xs)
  (x : Value) (m : Nat) (hm : 0 < m) (news : List Value) (hsrc : Src P i.size tx x m news w)
  (hb : (n + m) * bytes ≤ 140737488355328) (h63 : n + m ≤ maxLen) (hbase : base ≤ w.heap.size) :
  ∃ v' w', (Builtin.append_ #[t, tx] ty #[v, x]).run P w = .ok v' w' ∧ w'.ownsRow base e size v' (n + m) (xs ++ news) ∧ w.grownBy w' v.ownBlock ∧ NewBlock w v v' := by
 have hl : news.length = m * size := by rw [← hsize]; exact hsrc.newsLen
 have hlen : (xs ++ news).length = (n + m) * size := by rw [List.length_append, hown.1, hl, Nat.add_mul]
 have grown : ∀ (old : Nat), old < n + m → ∀ (row : Option Nat),
   (w.drew.alloc (.cells (xs.toArray ++ news.toArray ++ Builtin.zeroCells z.cells (grownCap w (n + m) old e - (n + m))) e)).ownsRow base e size
    (.slice (some ⟨w.heap.size, 0, none⟩) (n + m) (grownCap w (n + m) old e)) (n + m) (xs ++ news) ∧
   w.grownBy (w.drew.alloc (.cells (xs.toArray ++ news.toArray ++ Builtin.zeroCells z.cells (grownCap w (n + m) old e - (n + m))) e)) row := by
  intro old ho row
  have hge := grownCap_ge w (n + m) old e
  have hcm : grownCap w (n + m) old e ≤ maxLen := grownCap_le_maxLen w (n + m) old e h63
  refine ⟨⟨hlen, .inr ⟨w.heap.size, _, _, rfl, hbase, heap_alloc_new w.drew _, hge, hcm, ?_, ?_⟩⟩, ⟨rfl, rfl, rfl, by simp, fun k hk _ => Below.heap_alloc w.drew _ k hk⟩⟩
  ·simp only [Array.size_append, List.size_toArray, size_zeroCells, hzs, hown.1, hl, ← Nat.add_mul]
   congr 1
   omega
  ·simp only [Array.toList_append, List.append_assoc]
   rw [← List.append_assoc, ← hlen]
   exact List.take_left
 rcases hown.2 with ⟨rfl, rfl⟩ | ⟨g, cap, cur, rfl, hbg, hg, hnc, hcm, hcs, htake⟩
 ·have hx : xs = [] := List.eq_nil_of_length_eq_zero (by simpa using hown.1)
  subst hx
  have hr := run_append_grow_src (P := P) w t tx ty e i z ht hi hz none 0 0 [] (by simp [Builtin.firstCells]) x m news hsrc (by omega) (by simp only [maxLen] at h63; omega) (growslice_fits (by omega) (by rw [hby]; exact hb))
  have hgr := grown 0 (by omega) (Value.ownBlock (.slice none 0 0))
  simp only [List.nil_append, Array.empty_append, Nat.zero_add] at hr hgr ⊢
  exact ⟨_, _, hr, hgr.1, hgr.2, .inr rfl⟩
 ·by_cases hroom : n + m ≤ cap
  ·have hfit : n * i.size + news.length ≤ cur.size := by rw [hl, hcs, hsize, ← Nat.add_mul]; exact Nat.mul_le_mul_right _ hroom
   have hst := run_storeCells_at P g (n * i.size) e news 0 cur w hg (by simpa using hfit) hsrc.one
   simp only [Nat.add_zero] at hst
   have hr : (Builtin.append_ #[t, tx] ty #[.slice (some ⟨g, 0, none⟩) n cap, x]).run P w = .ok (.slice (some ⟨g, 0, none⟩) (n + m) cap) (w.setRow g (cur.toList.take (n * i.size) ++ news ++ cur.toList.drop (n * i.size + news.length)).toArray) := by
    rcases hsrc.kind with ⟨e', hk⟩ | hk <;> simp [Builtin.append_, run_underlying ht, run_underlying hk, sizeOf, typeInfo, hi, hsrc.len, hroom, hsrc.cells, Addr.add_lit, hst]
   rw [hsize] at hr
   refine ⟨_, _, hr, ⟨hlen, .inr ⟨g, cap, _, rfl, hbg, setRow_heap w g cur _ e _ hg, hroom, hcm, ?_, ?_⟩⟩, ⟨rfl, rfl, rfl, by simp, fun k _ hk => setRow_other w g k _ (fun e => hk (by simp [Value.ownBlock, e]))⟩, .inl rfl⟩
   ·rw [hsize] at hfit
    simp only [List.size_toArray, List.length_append, List.length_take, List.length_drop, Array.length_toList]
    omega
   ·rw [htake, ← hlen]
    exact List.take_left
  ·have holds : (Builtin.firstCells i.size n (.slice (some ⟨g, 0, none⟩) n cap)).run P w.drew = .ok xs.toArray w.drew := by
    rw [hsize]
    exact run_firstCells_some w.drew size n ⟨g, 0, none⟩ n cap xs hown.1 (fun j u hj => by
     have := hown.cells (g := g) rfl j u hj
     simpa using this)
   have hr := run_append_grow_src (P := P) w t tx ty e i z ht hi hz (some ⟨g, 0, none⟩) n cap xs holds x m news hsrc (by omega) (by simp only [maxLen] at h63; omega) (growslice_fits (by omega) (by rw [hby]; exact hb))
   have hgr := grown cap (by omega) (Value.ownBlock (.slice (some ⟨g, 0, none⟩) n cap))
   have hap : ((xs ++ news).toArray : Array Value) = xs.toArray ++ news.toArray := by simp
   rw [hap] at hr
   exact ⟨_, _, hr, hgr.1, hgr.2, .inr rfl⟩
theorem wpList_append_src {ops : Array Oper} {rest : List Oper} {o : Oper} {a : Act} {Q : Exit → Act → World → Prop} (hgd : o.guard = none) (s x : Operand) (t tx : TypeId)
  (ho : o.op = .call { callee := .builtin .append, args := #[s, x], argTypes := #[t, tx] })
  (base : Nat) (e : TypeId) (i : TypeInfo) (z : Value) (size bytes : Nat) (ht : P.underlying t = some (.slice e)) (hi : P.info? e = some i) (hz : i.zero = some z)
  (hsize : i.size = size) (hby : i.bytes = bytes) (hzs : z.cells.size = size) (hs0 : 0 < size) (v : Value) (n : Nat) (xs : List Value) (hs : a.eval s = v) (hown : w.ownsRow base e size v n xs)
  (xv : Value) (m : Nat) (hm : 0 < m) (news : List Value) (hx : a.eval x = xv) (hsrc : Src P i.size tx xv m news w)
  (hb : (n + m) * bytes ≤ 140737488355328) (h63 : n + m ≤ maxLen) (hbase : base ≤ w.heap.size)
  (h : ∀ v' w', w'.ownsRow base e size v' (n + m) (xs ++ news) → w.grownBy w' v.ownBlock → NewBlock w v v' → wpList P ops Q rest (a.put o.dst v') w') : wpList P ops Q (o :: rest) a w := by
 refine wpList_plain hgd fun K hK => ?_
 obtain ⟨v', w', hr, h2, h3, h4⟩ := run_append_src (P := P) w base t tx o.type e i z size bytes ht hi hz hsize hby hzs hs0 v n xs hown xv m hm news hsrc hb h63 hbase
 unfold Oper.wp execOp
 simp only [ho, resolve, invoke, builtin, Sem.run_bind, Sem.run_pure, Result.andThen_ok, List.map_toArray, List.map_cons, List.map_nil, hs, hx, hr]
 exact hK _ _ (h v' w' h2 h3 h4)
end
end Go.Proofs.YtkicmbdjihjgfaaGreatDoor
