/- What is wanted of a pair. Conditions: none. -/
import Derived.Test.YtcannohmbaaceaaTabD
import Derived.BigRegion
namespace Go.Proofs.Ytcannohmbaaceaa
open Go Go.RowKit
attribute [local go_sem] Oper.semAt_some Grows wide_fn eq4

/-- A call that tells what is wanted of a pair. -/
def WantOK (f : FuncId) (wt : Pr → Option Nat) : Prop := ∀ (W : World) (p : Pr), W256 p.fst → W256 p.snd → Calls Try.prog f #[prV p] W fun e w' => ∃ v b, e = .returned (.tuple #[wv v, .bool b]) ∧ W256 v ∧ wt p = (if b = true then some v else none) ∧ Below W.heap.size W w'
theorem nz_bool (a b c d : Int) : ((!(a == 0)) || (!(b == 0)) || (!(c == 0)) || (!(d == 0))) = !(a == 0 && b == 0 && c == 0 && d == 0) := by simp [Bool.not_and]
theorem results_wb {fn : Func} {t u : Tmp} {tmps : Array Value} {W : World} {B : Nat} {v0 v1 v2 v3 : Value} (h : fn.results = #[ResultVar.cell t 26, ResultVar.tmp u]) (ht : tmps.getD t undef = .pointer (some ⟨B, 0, none⟩)) (hA : Has W B 26 #[v0, v1, v2, v3]) :
    (results fn tmps).run Try.prog W = .ok (.tuple #[.agg #[v0, v1, v2, v3], tmps.getD u undef]) W := by
  have e0 := hA.cell 0 _ rfl
  have e1 := hA.cell 1 _ rfl
  have e2 := hA.cell 2 _ rfl
  have e3 := hA.cell 3 _ rfl
  simp at ht
  simp [results, h, ht, go_sem, e0, e1, e2, e3]
set_option maxRecDepth 100000 in
set_option maxHeartbeats 4000000 in
theorem behind_ok : WantOK 29 behindF := by
  intro W p hf hs
  obtain ⟨k, fst, snd, ins⟩ := p
  simp only at hf hs
  have hmx : Try.prog.follows .mixedOrders = true := by kernel_rfl
  have hz1 := zero_w fst hf
  have hz2 := zero_w snd hs
  cases ins
  · have HB := Lib.hid (show W256 fst ∧ behindF ⟨k, fst, snd, false⟩ = (if ((!(lim fst 0 == 0)) || (!(lim fst 1 == 0)) || (!(lim fst 2 == 0)) || (!(lim fst 3 == 0))) = true then some fst else none) from ⟨hf, by
      rw [nz_bool, hz1]
      unfold behindF
      by_cases h0 : fst = 0 <;> simp [h0]⟩)
    have hfin := Lib.hid (show ∀ X, Below W.heap.size W X → ∃ v b, Ending.returned (.tuple #[.agg #[.int .u64 (lim fst 0), .int .u64 (lim fst 1), .int .u64 (lim fst 2), .int .u64 (lim fst 3)], .bool ((!(lim fst 0 == 0)) || (!(lim fst 1 == 0)) || (!(lim fst 2 == 0)) || (!(lim fst 3 == 0)))]) = .returned (.tuple #[wv v, .bool b]) ∧ W256 v ∧ behindF ⟨k, fst, snd, false⟩ = (if b = true then some v else none) ∧ Below W.heap.size W X from fun X hX => ⟨fst, _, rfl, HB.out.1, HB.out.2, hX⟩)
    obtain ⟨Post, hPost⟩ : ∃ Post : Ending → World → Prop, (fun (e : Ending) (w' : World) => ∃ v b, e = .returned (.tuple #[wv v, .bool b]) ∧ W256 v ∧ behindF ⟨k, fst, snd, false⟩ = (if b = true then some v else none) ∧ Below W.heap.size W w') = Post := ⟨_, rfl⟩
    replace hfin := Lib.hid (show ∀ X, Below W.heap.size W X → Post (.returned (.tuple #[.agg #[.int .u64 (lim fst 0), .int .u64 (lim fst 1), .int .u64 (lim fst 2), .int .u64 (lim fst 3)], .bool ((!(lim fst 0 == 0)) || (!(lim fst 1 == 0)) || (!(lim fst 2 == 0)) || (!(lim fst 3 == 0)))])) X by rw [← hPost]; exact hfin.out)
    rw [hPost]
    clear hPost HB hz1 hz2 hf hs
    unfold prV
    simp only
    generalize lim fst 0 = f0 at *
    generalize lim snd 0 = s0 at *
    generalize lim fst 1 = f1 at *
    generalize lim snd 1 = s1 at *
    generalize lim fst 2 = f2 at *
    generalize lim snd 2 = s2 at *
    generalize lim fst 3 = f3 at *
    generalize lim snd 3 = s3 at *
    have LP := ((Has.new W 59 #[.int .u64 f0, .int .u64 f1, .int .u64 f2, .int .u64 f3, .int .u64 s0, .int .u64 s1, .int .u64 s2, .int .u64 s3, .bool false]).alloc (.cells #[.int .u64 0, .int .u64 0, .int .u64 0, .int .u64 0] 26)).alloc (.cells #[.int .u64 f0, .int .u64 f1, .int .u64 f2, .int .u64 f3] 26)
    have LR := (Has.new (W.alloc (.cells #[.int .u64 f0, .int .u64 f1, .int .u64 f2, .int .u64 f3, .int .u64 s0, .int .u64 s1, .int .u64 s2, .int .u64 s3, .bool false] 59)) 26 #[.int .u64 0, .int .u64 0, .int .u64 0, .int .u64 0]).alloc (.cells #[.int .u64 f0, .int .u64 f1, .int .u64 f2, .int .u64 f3] 26)
    have LP0 := (Has.new W 59 #[.int .u64 f0, .int .u64 f1, .int .u64 f2, .int .u64 f3, .int .u64 s0, .int .u64 s1, .int .u64 s2, .int .u64 s3, .bool false]).alloc (.cells #[.int .u64 0, .int .u64 0, .int .u64 0, .int .u64 0] 26)
    have LP1 := LP0.alloc (.cells #[.int .u64 0, .int .u64 0, .int .u64 0, .int .u64 0] 26)
    have NV := Has.new ((W.alloc (.cells #[.int .u64 f0, .int .u64 f1, .int .u64 f2, .int .u64 f3, .int .u64 s0, .int .u64 s1, .int .u64 s2, .int .u64 s3, .bool false] 59)).alloc (.cells #[.int .u64 0, .int .u64 0, .int .u64 0, .int .u64 0] 26)) 26 #[.int .u64 0, .int .u64 0, .int .u64 0, .int .u64 0]
    have LV := Has.new ((W.alloc (.cells #[.int .u64 f0, .int .u64 f1, .int .u64 f2, .int .u64 f3, .int .u64 s0, .int .u64 s1, .int .u64 s2, .int .u64 s3, .bool false] 59)).alloc (.cells #[.int .u64 0, .int .u64 0, .int .u64 0, .int .u64 0] 26)) 26 #[.int .u64 f0, .int .u64 f1, .int .u64 f2, .int .u64 f3]
    simp only [World.size_alloc] at LR NV LV
    have QQ := (((Below.refl W.heap.size W).alloc (Nat.le_refl _) (.cells #[.int .u64 f0, .int .u64 f1, .int .u64 f2, .int .u64 f3, .int .u64 s0, .int .u64 s1, .int .u64 s2, .int .u64 s3, .bool false] 59)).alloc (by simp) (.cells #[.int .u64 0, .int .u64 0, .int .u64 0, .int .u64 0] 26)).alloc (by simp; omega) (.cells #[.int .u64 f0, .int .u64 f1, .int .u64 f2, .int .u64 f3] 26)
    have a0 := LP0.cell 0 _ rfl
    have n0 := NV.cell 0 _ rfl
    have nf0 := NV.frozen 0
    have v0 := LV.cell 0 _ rfl
    have vf0 := LV.frozen 0
    have a1 := LP0.cell 1 _ rfl
    have n1 := NV.cell 1 _ rfl
    have nf1 := NV.frozen 1
    have v1 := LV.cell 1 _ rfl
    have vf1 := LV.frozen 1
    have a2 := LP0.cell 2 _ rfl
    have n2 := NV.cell 2 _ rfl
    have nf2 := NV.frozen 2
    have v2 := LV.cell 2 _ rfl
    have vf2 := LV.frozen 2
    have a3 := LP0.cell 3 _ rfl
    have n3 := NV.cell 3 _ rfl
    have nf3 := NV.frozen 3
    have v3 := LV.cell 3 _ rfl
    have vf3 := LV.frozen 3
    have a8 := LP.cell 8 _ rfl
    replace LP := Lib.hid LP
    replace LP0 := Lib.hid LP0
    replace LP1 := Lib.hid LP1
    replace LR := Lib.hid LR
    replace NV := Lib.hid NV
    replace LV := Lib.hid LV
    replace QQ := Lib.hid QQ
    go_enter Try.func29, Try.ntmps29
    go_wp2_with fail
    clear a0 n0 nf0 v0 vf0 a1 n1 nf1 v1 vf1 a2 n2 nf2 v2 vf2 a3 n3 nf3 v3 vf3 a8 LP LP0 LP1 NV LV LR QQ
    have LR := (Has.new (W.alloc (.cells #[.int .u64 f0, .int .u64 f1, .int .u64 f2, .int .u64 f3, .int .u64 s0, .int .u64 s1, .int .u64 s2, .int .u64 s3, .bool false] 59)) 26 #[.int .u64 0, .int .u64 0, .int .u64 0, .int .u64 0]).alloc (.cells #[.int .u64 f0, .int .u64 f1, .int .u64 f2, .int .u64 f3] 26)
    have LV := Has.new ((W.alloc (.cells #[.int .u64 f0, .int .u64 f1, .int .u64 f2, .int .u64 f3, .int .u64 s0, .int .u64 s1, .int .u64 s2, .int .u64 s3, .bool false] 59)).alloc (.cells #[.int .u64 0, .int .u64 0, .int .u64 0, .int .u64 0] 26)) 26 #[.int .u64 f0, .int .u64 f1, .int .u64 f2, .int .u64 f3]
    simp only [World.size_alloc] at LR LV
    have QQ := (((Below.refl W.heap.size W).alloc (Nat.le_refl _) (.cells #[.int .u64 f0, .int .u64 f1, .int .u64 f2, .int .u64 f3, .int .u64 s0, .int .u64 s1, .int .u64 s2, .int .u64 s3, .bool false] 59)).alloc (by simp) (.cells #[.int .u64 0, .int .u64 0, .int .u64 0, .int .u64 0] 26)).alloc (by simp; omega) (.cells #[.int .u64 f0, .int .u64 f1, .int .u64 f2, .int .u64 f3] 26)
    obtain ⟨W2, hW2⟩ : ∃ W2, ((W.alloc (.cells #[.int .u64 f0, .int .u64 f1, .int .u64 f2, .int .u64 f3, .int .u64 s0, .int .u64 s1, .int .u64 s2, .int .u64 s3, .bool false] 59)).alloc (.cells #[.int .u64 0, .int .u64 0, .int .u64 0, .int .u64 0] 26)).alloc (.cells #[.int .u64 f0, .int .u64 f1, .int .u64 f2, .int .u64 f3] 26) = W2 := ⟨_, rfl⟩
    rw [hW2] at LR LV QQ ⊢
    clear hW2
    have LR2 := Lib.hid ((((LR.set 0 (.int .u64 f0)).set 1 (.int .u64 f1)).set 2 (.int .u64 f2)).set 3 (.int .u64 f3))
    have QQ2 := Lib.hid ((((QQ.setCell (p := ⟨(W.heap.size + 1), 0, none⟩) (by simp) (.int .u64 f0)).setCell (p := ⟨(W.heap.size + 1), 1, none⟩) (by simp) (.int .u64 f1)).setCell (p := ⟨(W.heap.size + 1), 2, none⟩) (by simp) (.int .u64 f2)).setCell (p := ⟨(W.heap.size + 1), 3, none⟩) (by simp) (.int .u64 f3))
    have x0 := LR.cell 0 _ rfl
    have f0' := LR.frozen 0
    have y0 := LV.cell 0 _ rfl
    have x1 := LR.cell 1 _ rfl
    have f1' := LR.frozen 1
    have y1 := LV.cell 1 _ rfl
    have x2 := LR.cell 2 _ rfl
    have f2' := LR.frozen 2
    have y2 := LV.cell 2 _ rfl
    have x3 := LR.cell 3 _ rfl
    have f3' := LR.frozen 3
    have y3 := LV.cell 3 _ rfl
    replace LR := Lib.hid LR
    replace LV := Lib.hid LV
    replace QQ := Lib.hid QQ
    go_region
    all_goals (go_wp2_with fail)
    all_goals (refine bodyPost_ret (results_wb rfl rfl LR2.out) rfl ?_)
    all_goals (exact hfin.out _ QQ2.out.drew)
  · have HB := Lib.hid (show W256 snd ∧ behindF ⟨k, fst, snd, true⟩ = (if ((!(lim snd 0 == 0)) || (!(lim snd 1 == 0)) || (!(lim snd 2 == 0)) || (!(lim snd 3 == 0))) = true then some snd else none) from ⟨hs, by
      rw [nz_bool, hz2]
      unfold behindF
      by_cases h0 : snd = 0 <;> simp [h0]⟩)
    have hfin := Lib.hid (show ∀ X, Below W.heap.size W X → ∃ v b, Ending.returned (.tuple #[.agg #[.int .u64 (lim snd 0), .int .u64 (lim snd 1), .int .u64 (lim snd 2), .int .u64 (lim snd 3)], .bool ((!(lim snd 0 == 0)) || (!(lim snd 1 == 0)) || (!(lim snd 2 == 0)) || (!(lim snd 3 == 0)))]) = .returned (.tuple #[wv v, .bool b]) ∧ W256 v ∧ behindF ⟨k, fst, snd, true⟩ = (if b = true then some v else none) ∧ Below W.heap.size W X from fun X hX => ⟨snd, _, rfl, HB.out.1, HB.out.2, hX⟩)
    obtain ⟨Post, hPost⟩ : ∃ Post : Ending → World → Prop, (fun (e : Ending) (w' : World) => ∃ v b, e = .returned (.tuple #[wv v, .bool b]) ∧ W256 v ∧ behindF ⟨k, fst, snd, true⟩ = (if b = true then some v else none) ∧ Below W.heap.size W w') = Post := ⟨_, rfl⟩
    replace hfin := Lib.hid (show ∀ X, Below W.heap.size W X → Post (.returned (.tuple #[.agg #[.int .u64 (lim snd 0), .int .u64 (lim snd 1), .int .u64 (lim snd 2), .int .u64 (lim snd 3)], .bool ((!(lim snd 0 == 0)) || (!(lim snd 1 == 0)) || (!(lim snd 2 == 0)) || (!(lim snd 3 == 0)))])) X by rw [← hPost]; exact hfin.out)
    rw [hPost]
    clear hPost HB hz1 hz2 hf hs
    unfold prV
    simp only
    generalize lim fst 0 = f0 at *
    generalize lim snd 0 = s0 at *
    generalize lim fst 1 = f1 at *
    generalize lim snd 1 = s1 at *
    generalize lim fst 2 = f2 at *
    generalize lim snd 2 = s2 at *
    generalize lim fst 3 = f3 at *
    generalize lim snd 3 = s3 at *
    have LP := ((Has.new W 59 #[.int .u64 f0, .int .u64 f1, .int .u64 f2, .int .u64 f3, .int .u64 s0, .int .u64 s1, .int .u64 s2, .int .u64 s3, .bool true]).alloc (.cells #[.int .u64 0, .int .u64 0, .int .u64 0, .int .u64 0] 26)).alloc (.cells #[.int .u64 f0, .int .u64 f1, .int .u64 f2, .int .u64 f3] 26)
    have LR := (Has.new (W.alloc (.cells #[.int .u64 f0, .int .u64 f1, .int .u64 f2, .int .u64 f3, .int .u64 s0, .int .u64 s1, .int .u64 s2, .int .u64 s3, .bool true] 59)) 26 #[.int .u64 0, .int .u64 0, .int .u64 0, .int .u64 0]).alloc (.cells #[.int .u64 f0, .int .u64 f1, .int .u64 f2, .int .u64 f3] 26)
    have LP0 := (Has.new W 59 #[.int .u64 f0, .int .u64 f1, .int .u64 f2, .int .u64 f3, .int .u64 s0, .int .u64 s1, .int .u64 s2, .int .u64 s3, .bool true]).alloc (.cells #[.int .u64 0, .int .u64 0, .int .u64 0, .int .u64 0] 26)
    have LP1 := LP0.alloc (.cells #[.int .u64 0, .int .u64 0, .int .u64 0, .int .u64 0] 26)
    have NV := Has.new ((W.alloc (.cells #[.int .u64 f0, .int .u64 f1, .int .u64 f2, .int .u64 f3, .int .u64 s0, .int .u64 s1, .int .u64 s2, .int .u64 s3, .bool true] 59)).alloc (.cells #[.int .u64 0, .int .u64 0, .int .u64 0, .int .u64 0] 26)) 26 #[.int .u64 0, .int .u64 0, .int .u64 0, .int .u64 0]
    have LV := Has.new ((W.alloc (.cells #[.int .u64 f0, .int .u64 f1, .int .u64 f2, .int .u64 f3, .int .u64 s0, .int .u64 s1, .int .u64 s2, .int .u64 s3, .bool true] 59)).alloc (.cells #[.int .u64 0, .int .u64 0, .int .u64 0, .int .u64 0] 26)) 26 #[.int .u64 f0, .int .u64 f1, .int .u64 f2, .int .u64 f3]
    simp only [World.size_alloc] at LR NV LV
    have QQ := (((Below.refl W.heap.size W).alloc (Nat.le_refl _) (.cells #[.int .u64 f0, .int .u64 f1, .int .u64 f2, .int .u64 f3, .int .u64 s0, .int .u64 s1, .int .u64 s2, .int .u64 s3, .bool true] 59)).alloc (by simp) (.cells #[.int .u64 0, .int .u64 0, .int .u64 0, .int .u64 0] 26)).alloc (by simp; omega) (.cells #[.int .u64 f0, .int .u64 f1, .int .u64 f2, .int .u64 f3] 26)
    have a0 := LP0.cell 0 _ rfl
    have n0 := NV.cell 0 _ rfl
    have nf0 := NV.frozen 0
    have v0 := LV.cell 0 _ rfl
    have vf0 := LV.frozen 0
    have a1 := LP0.cell 1 _ rfl
    have n1 := NV.cell 1 _ rfl
    have nf1 := NV.frozen 1
    have v1 := LV.cell 1 _ rfl
    have vf1 := LV.frozen 1
    have a2 := LP0.cell 2 _ rfl
    have n2 := NV.cell 2 _ rfl
    have nf2 := NV.frozen 2
    have v2 := LV.cell 2 _ rfl
    have vf2 := LV.frozen 2
    have a3 := LP0.cell 3 _ rfl
    have n3 := NV.cell 3 _ rfl
    have nf3 := NV.frozen 3
    have v3 := LV.cell 3 _ rfl
    have vf3 := LV.frozen 3
    have a4 := LP.cell 4 _ rfl
    have a5 := LP.cell 5 _ rfl
    have a6 := LP.cell 6 _ rfl
    have a7 := LP.cell 7 _ rfl
    have a8 := LP.cell 8 _ rfl
    replace LP := Lib.hid LP
    replace LP0 := Lib.hid LP0
    replace LP1 := Lib.hid LP1
    replace LR := Lib.hid LR
    replace NV := Lib.hid NV
    replace LV := Lib.hid LV
    replace QQ := Lib.hid QQ
    go_enter Try.func29, Try.ntmps29
    go_wp2_with fail
    clear a0 n0 nf0 v0 vf0 a1 n1 nf1 v1 vf1 a2 n2 nf2 v2 vf2 a3 n3 nf3 v3 vf3 a8 a4 a5 a6 a7 LP LP0 LP1 NV LV LR QQ
    have LR := (Has.new (W.alloc (.cells #[.int .u64 f0, .int .u64 f1, .int .u64 f2, .int .u64 f3, .int .u64 s0, .int .u64 s1, .int .u64 s2, .int .u64 s3, .bool true] 59)) 26 #[.int .u64 0, .int .u64 0, .int .u64 0, .int .u64 0]).alloc (.cells #[.int .u64 s0, .int .u64 s1, .int .u64 s2, .int .u64 s3] 26)
    have LV := Has.new ((W.alloc (.cells #[.int .u64 f0, .int .u64 f1, .int .u64 f2, .int .u64 f3, .int .u64 s0, .int .u64 s1, .int .u64 s2, .int .u64 s3, .bool true] 59)).alloc (.cells #[.int .u64 0, .int .u64 0, .int .u64 0, .int .u64 0] 26)) 26 #[.int .u64 s0, .int .u64 s1, .int .u64 s2, .int .u64 s3]
    simp only [World.size_alloc] at LR LV
    have QQ := (((Below.refl W.heap.size W).alloc (Nat.le_refl _) (.cells #[.int .u64 f0, .int .u64 f1, .int .u64 f2, .int .u64 f3, .int .u64 s0, .int .u64 s1, .int .u64 s2, .int .u64 s3, .bool true] 59)).alloc (by simp) (.cells #[.int .u64 0, .int .u64 0, .int .u64 0, .int .u64 0] 26)).alloc (by simp; omega) (.cells #[.int .u64 s0, .int .u64 s1, .int .u64 s2, .int .u64 s3] 26)
    obtain ⟨W2, hW2⟩ : ∃ W2, ((W.alloc (.cells #[.int .u64 f0, .int .u64 f1, .int .u64 f2, .int .u64 f3, .int .u64 s0, .int .u64 s1, .int .u64 s2, .int .u64 s3, .bool true] 59)).alloc (.cells #[.int .u64 0, .int .u64 0, .int .u64 0, .int .u64 0] 26)).alloc (.cells #[.int .u64 s0, .int .u64 s1, .int .u64 s2, .int .u64 s3] 26) = W2 := ⟨_, rfl⟩
    rw [hW2] at LR LV QQ ⊢
    clear hW2
    have LR2 := Lib.hid ((((LR.set 0 (.int .u64 s0)).set 1 (.int .u64 s1)).set 2 (.int .u64 s2)).set 3 (.int .u64 s3))
    have QQ2 := Lib.hid ((((QQ.setCell (p := ⟨(W.heap.size + 1), 0, none⟩) (by simp) (.int .u64 s0)).setCell (p := ⟨(W.heap.size + 1), 1, none⟩) (by simp) (.int .u64 s1)).setCell (p := ⟨(W.heap.size + 1), 2, none⟩) (by simp) (.int .u64 s2)).setCell (p := ⟨(W.heap.size + 1), 3, none⟩) (by simp) (.int .u64 s3))
    have x0 := LR.cell 0 _ rfl
    have f0' := LR.frozen 0
    have y0 := LV.cell 0 _ rfl
    have x1 := LR.cell 1 _ rfl
    have f1' := LR.frozen 1
    have y1 := LV.cell 1 _ rfl
    have x2 := LR.cell 2 _ rfl
    have f2' := LR.frozen 2
    have y2 := LV.cell 2 _ rfl
    have x3 := LR.cell 3 _ rfl
    have f3' := LR.frozen 3
    have y3 := LV.cell 3 _ rfl
    replace LR := Lib.hid LR
    replace LV := Lib.hid LV
    replace QQ := Lib.hid QQ
    go_region
    all_goals (go_wp2_with fail)
    all_goals (refine bodyPost_ret (results_wb rfl rfl LR2.out) rfl ?_)
    all_goals (exact hfin.out _ QQ2.out.drew)
theorem ne_bool (a b c d a' b' c' d' : Int) : ((!(a == a')) || (!(b == b')) || (!(c == c')) || (!(d == d'))) = !(a == a' && b == b' && c == c' && d == d') := by simp [Bool.not_and]
set_option maxRecDepth 100000 in
set_option maxHeartbeats 4000000 in
theorem unlike_ok : WantOK 31 unlikeF := by
  intro W p hf hs
  obtain ⟨k, fst, snd, ins⟩ := p
  simp only at hf hs
  have hmx : Try.prog.follows .mixedOrders = true := by kernel_rfl
  have HB := Lib.hid (show W256 snd ∧ unlikeF ⟨k, fst, snd, ins⟩ = (if ((!(lim fst 0 == lim snd 0)) || (!(lim fst 1 == lim snd 1)) || (!(lim fst 2 == lim snd 2)) || (!(lim fst 3 == lim snd 3))) = true then some snd else none) from ⟨hs, by
    rw [ne_bool, eqv_w fst snd hf hs]
    unfold unlikeF
    by_cases h0 : fst = snd <;> simp [h0]⟩)
  obtain ⟨Post, hPost⟩ : ∃ Post : Ending → World → Prop, (fun (e : Ending) (w' : World) => ∃ v b, e = .returned (.tuple #[wv v, .bool b]) ∧ W256 v ∧ unlikeF ⟨k, fst, snd, ins⟩ = (if b = true then some v else none) ∧ Below W.heap.size W w') = Post := ⟨_, rfl⟩
  have hfin := Lib.hid (show ∀ X, Below W.heap.size W X → Post (.returned (.tuple #[.agg #[.int .u64 (lim snd 0), .int .u64 (lim snd 1), .int .u64 (lim snd 2), .int .u64 (lim snd 3)], .bool ((!(lim fst 0 == lim snd 0)) || (!(lim fst 1 == lim snd 1)) || (!(lim fst 2 == lim snd 2)) || (!(lim fst 3 == lim snd 3)))])) X by
    rw [← hPost]
    exact fun X hX => ⟨snd, _, rfl, HB.out.1, HB.out.2, hX⟩)
  rw [hPost]
  clear hPost HB hf hs
  unfold prV
  simp only
  generalize lim fst 0 = f0 at *
  generalize lim snd 0 = s0 at *
  generalize lim fst 1 = f1 at *
  generalize lim snd 1 = s1 at *
  generalize lim fst 2 = f2 at *
  generalize lim snd 2 = s2 at *
  generalize lim fst 3 = f3 at *
  generalize lim snd 3 = s3 at *
  have LP := (Has.new W 59 #[.int .u64 f0, .int .u64 f1, .int .u64 f2, .int .u64 f3, .int .u64 s0, .int .u64 s1, .int .u64 s2, .int .u64 s3, .bool ins]).alloc (.cells #[.int .u64 0, .int .u64 0, .int .u64 0, .int .u64 0] 26)
  have LR := Has.new (W.alloc (.cells #[.int .u64 f0, .int .u64 f1, .int .u64 f2, .int .u64 f3, .int .u64 s0, .int .u64 s1, .int .u64 s2, .int .u64 s3, .bool ins] 59)) 26 #[.int .u64 0, .int .u64 0, .int .u64 0, .int .u64 0]
  simp only [World.size_alloc] at LR
  have QQ := ((Below.refl W.heap.size W).alloc (Nat.le_refl _) (.cells #[.int .u64 f0, .int .u64 f1, .int .u64 f2, .int .u64 f3, .int .u64 s0, .int .u64 s1, .int .u64 s2, .int .u64 s3, .bool ins] 59)).alloc (by simp) (.cells #[.int .u64 0, .int .u64 0, .int .u64 0, .int .u64 0] 26)
  obtain ⟨W2, hW2⟩ : ∃ W2, (W.alloc (.cells #[.int .u64 f0, .int .u64 f1, .int .u64 f2, .int .u64 f3, .int .u64 s0, .int .u64 s1, .int .u64 s2, .int .u64 s3, .bool ins] 59)).alloc (.cells #[.int .u64 0, .int .u64 0, .int .u64 0, .int .u64 0] 26) = W2 := ⟨_, rfl⟩
  rw [hW2] at LP LR QQ
  have LR2 := Lib.hid ((((LR.set 0 (.int .u64 s0)).set 1 (.int .u64 s1)).set 2 (.int .u64 s2)).set 3 (.int .u64 s3))
  have QQ2 := Lib.hid ((((QQ.setCell (p := ⟨(W.heap.size + 1), 0, none⟩) (by simp) (.int .u64 s0)).setCell (p := ⟨(W.heap.size + 1), 1, none⟩) (by simp) (.int .u64 s1)).setCell (p := ⟨(W.heap.size + 1), 2, none⟩) (by simp) (.int .u64 s2)).setCell (p := ⟨(W.heap.size + 1), 3, none⟩) (by simp) (.int .u64 s3))
  have x0 := LR.cell 0 _ rfl
  have z0 := LR.frozen 0
  have x1 := LR.cell 1 _ rfl
  have z1 := LR.frozen 1
  have x2 := LR.cell 2 _ rfl
  have z2 := LR.frozen 2
  have x3 := LR.cell 3 _ rfl
  have z3 := LR.frozen 3
  have a0 := LP.cell 0 _ rfl
  have a1 := LP.cell 1 _ rfl
  have a2 := LP.cell 2 _ rfl
  have a3 := LP.cell 3 _ rfl
  have a4 := LP.cell 4 _ rfl
  have a5 := LP.cell 5 _ rfl
  have a6 := LP.cell 6 _ rfl
  have a7 := LP.cell 7 _ rfl
  have LPO := ((((LP.other (p := ⟨W.heap.size + 1, 0, none⟩) (by simp) (.int .u64 s0)).other (p := ⟨W.heap.size + 1, 1, none⟩) (by simp) (.int .u64 s1)).other (p := ⟨W.heap.size + 1, 2, none⟩) (by simp) (.int .u64 s2)).other (p := ⟨W.heap.size + 1, 3, none⟩) (by simp) (.int .u64 s3))
  have b0 := LPO.cell 0 _ rfl
  have b1 := LPO.cell 1 _ rfl
  have b2 := LPO.cell 2 _ rfl
  have b3 := LPO.cell 3 _ rfl
  have b4 := LPO.cell 4 _ rfl
  have b5 := LPO.cell 5 _ rfl
  have b6 := LPO.cell 6 _ rfl
  have b7 := LPO.cell 7 _ rfl
  replace LP := Lib.hid LP
  replace LPO := Lib.hid LPO
  replace LR := Lib.hid LR
  replace QQ := Lib.hid QQ
  go_enter Try.func31, Try.ntmps31
  go_wp2_with fail
  try rw [hW2]
  go_region
  all_goals (go_wp2_with fail)
  all_goals (refine bodyPost_ret (results_wb rfl rfl LR2.out) rfl ?_)
  all_goals (exact hfin.out _ QQ2.out.drew)
set_option maxRecDepth 100000 in
set_option maxHeartbeats 1000000 in
theorem both_any (W : World) (n1 n2 B1 B2 : Nat) :
    Calls Try.prog 36 #[tabV n1 B1, tabV n2 B2] W fun e w' => ∃ C1 C2, e = .returned (.func (.func 41) #[] #[.pointer (some ⟨C1, 0, none⟩), .pointer (some ⟨C2, 0, none⟩)]) ∧ W.heap.size ≤ C1 ∧ W.heap.size ≤ C2 ∧ Has w' C1 49 #[.int .i64 ((n1 : Nat) : Int), .func (.func 33) #[] #[.pointer (some ⟨B1, 0, none⟩)], .func (.func 34) #[] #[.pointer (some ⟨B1, 0, none⟩)], .func (.func 35) #[] #[]] ∧ Has w' C2 49 #[.int .i64 ((n2 : Nat) : Int), .func (.func 33) #[] #[.pointer (some ⟨B2, 0, none⟩)], .func (.func 34) #[] #[.pointer (some ⟨B2, 0, none⟩)], .func (.func 35) #[] #[]] ∧ Below W.heap.size W w' := by
  have L1 := Lib.hid ((Has.new W 49 #[.int .i64 ((n1 : Nat) : Int), .func (.func 33) #[] #[.pointer (some ⟨B1, 0, none⟩)], .func (.func 34) #[] #[.pointer (some ⟨B1, 0, none⟩)], .func (.func 35) #[] #[]]).alloc (.cells #[.int .i64 ((n2 : Nat) : Int), .func (.func 33) #[] #[.pointer (some ⟨B2, 0, none⟩)], .func (.func 34) #[] #[.pointer (some ⟨B2, 0, none⟩)], .func (.func 35) #[] #[]] 49))
  have L2 := Has.new (W.alloc (.cells #[.int .i64 ((n1 : Nat) : Int), .func (.func 33) #[] #[.pointer (some ⟨B1, 0, none⟩)], .func (.func 34) #[] #[.pointer (some ⟨B1, 0, none⟩)], .func (.func 35) #[] #[]] 49)) 49 #[.int .i64 ((n2 : Nat) : Int), .func (.func 33) #[] #[.pointer (some ⟨B2, 0, none⟩)], .func (.func 34) #[] #[.pointer (some ⟨B2, 0, none⟩)], .func (.func 35) #[] #[]]
  simp only [World.size_alloc] at L2
  have L2 := Lib.hid L2
  have Q := Lib.hid (((Below.refl W.heap.size W).alloc (Nat.le_refl _) (.cells #[.int .i64 ((n1 : Nat) : Int), .func (.func 33) #[] #[.pointer (some ⟨B1, 0, none⟩)], .func (.func 34) #[] #[.pointer (some ⟨B1, 0, none⟩)], .func (.func 35) #[] #[]] 49)).alloc (by simp) (.cells #[.int .i64 ((n2 : Nat) : Int), .func (.func 33) #[] #[.pointer (some ⟨B2, 0, none⟩)], .func (.func 34) #[] #[.pointer (some ⟨B2, 0, none⟩)], .func (.func 35) #[] #[]] 49))
  go_enter Try.func36, Try.ntmps36
  go_wp2_with fail
  go_ret
  exact ⟨W.heap.size, W.heap.size + 1, rfl, Nat.le_refl _, by omega, L1.out, L2.out, Q.out⟩
end Go.Proofs.Ytcannohmbaaceaa
