/- Part. -/
import Derived.Test.YtlihnlkcgiopoaaDoorJ05
import Derived.Test.YtlihnlkcgiopoaaDoorJ02
import Derived.Test.YtlihnlkcgiopoaaDoorJ07
import Derived.Lib.BytesEntry
import Derived.Lib.Bytealg
import Derived.Laws.StructEq
import Derived.Laws.Cover2
import Derived.WalkKit
import Derived.Deep.Quiet
import Derived.BigQuiet
import Derived.Deep.MidRow
import Derived.Deep.WholeRow
import Derived.Test.YtlihnlkcgiopoaaDoorJ04
set_option maxRecDepth 100000
set_option maxHeartbeats 16000000
namespace Go.Proofs.YtlihnlkcgiopoaaDoor
section
open Go Go.RowKit Go.Shelf
attribute [local go_sem] Oper.semAt_some Grows wide_fn
theorem Has.grownG {A X : World} {row : Option Nat} {B : Nat} {t : TypeId} {cs : Array Value} (h : Has A B t cs) (hg : A.grownBy X row) (hr : ∀ r, row = some r → ∃ o : Obj, A.heap[r]? = some o ∧ o.isCells = false) : Has X B t cs := by
 refine (hg.block B h.lt (fun e => ?_)).trans h
 obtain ⟨o, ho, hc⟩ := hr B e.symm
 unfold Has at h
 rw [h] at ho
 cases ho
 cases hc
theorem below_grownG {n : Nat} {w W X : World} {row : Option Nat} (h : Below n w W) (hg : W.grownBy X row) (hn : n ≤ W.heap.size) (hr : ∀ r, row = some r → n ≤ r) : Below n w X :=
 ⟨hg.os.trans h.os, hg.tape.trans h.tape, hg.output.trans h.output, Nat.le_trans h.size hg.size, fun k hk => (hg.block k (Nat.lt_of_lt_of_le hk hn) (fun e => by have := hr k e.symm; omega)).trans (h.block k hk)⟩
theorem keepsFrom_belowG {B : Nat} {W X : World} (h : Below W.heap.size W X) : KeepsFrom B W X := Ext.keeps ⟨X, h⟩ B
def byG (s : ByteArray) (k : Nat) : Nat := (s.data.getD k 0).toNat
theorem byG_lt (s : ByteArray) (k : Nat) : byG s k < 256 := (s.data.getD k 0).toNat_lt
theorem byG_at (s : ByteArray) (k : Nat) (hk : k < s.size) : s[k].toNat = byG s k := by
 unfold byG
 have h' : k < s.data.size := hk
 rw [Array.getD_eq_getD_getElem?, Array.getElem?_eq_getElem h']
 rfl
theorem bytes_mk (W : World) (s : ByteArray) : Calls Tryd.prog 49 #[.string s] W fun e w' => e = .returned (.func (.func 69) #[] #[.pointer (some ⟨W.heap.size, 0, none⟩)]) ∧ w' = W.alloc (.cells #[.string s] 9) := by
 go_enter Tryd.func49, Tryd.ntmps49
 go_wp2
 go_ret
 exact ⟨rfl, rfl⟩
theorem bytes_seq (n : Nat) (hn : 1 ≤ n) (Bs : Nat) (s : ByteArray) (hs : s.size ≤ 1000000000) (w : World) (hBs : Bs < w.heap.size) (hcB : w.cell? ⟨Bs, 0, none⟩ = some (.string s)) :
  SeqN Fence.wide n Tryd.prog 69 #[.pointer (some ⟨Bs, 0, none⟩)] (fun k => #[.int .u8 (byG s k : Int)]) (KeepsAt [Bs]) s.size w := by
 intro l J Jx W hW _ _ hY h0
 have hBs' := (hW.cell (p := ⟨Bs, 0, none⟩) hBs).trans hcB
 have HGB := hid (byG_at s)
 have HS := hid hs
 clear hcB
 refine callsIn_of_wp Tryd.func69 rfl trivial ?_ rfl
 simp only [Tryd.ntmps69, List.size_toArray, List.length_cons, List.length_nil, Nat.reduceAdd, Nat.reduceSub, Array.replicate_succ, Array.replicate_zero, List.push_toArray, List.append_toArray, List.nil_append, List.cons_append]
 gi_wp2
 gi_loopw [6] (fun i wr => ∃ k : Nat, k ≤ s.size ∧ i = .int .i64 (k : Int) ∧ J k wr ∧ KeepsAt [Bs] W wr)
  (fun i _ => s.size - (intOf i).toNat)
 case atStart => exact ⟨0, Nat.zero_le _, rfl, h0, KeepsAt.refl _ _⟩
 case round =>
  obtain ⟨k, hk, rfl, hJs, hnx⟩ := hrel
  by_cases hlt : k < s.size
  ·have hYk := hY k wr hlt hJs
   have hbx : wr.cell? ⟨Bs, 0, none⟩ = some (.string s) := (hnx.cell (p := ⟨Bs, 0, none⟩) (by simp)).trans hBs'
   have hg := HGB.out k hlt
   obtain ⟨y, hy'⟩ : ∃ y, byG s k = y := ⟨_, rfl⟩
   rw [hy'] at hYk hg
   obtain ⟨fn, tmps, assign, body, hy, hR⟩ := hYk
   have p0 : (0 : Int) ≤ (k : Int) := by omega
   have p1 : (k : Int) < (s.size : Int) := by omega
   have p2 : (k : Int) < 1000000000 := by omega
   have HNX := hid hnx
   have HK := hid (And.intro hlt hk)
   have HRR := hid hR
   clear hnx hk hy' h0 hY hR hJs hs HGB hBs'
   gi_wp2
   refine HRR.out.mono ?_
   rintro e W3 (⟨rfl, hJ3, hk3⟩ | ⟨rfl, hJx3⟩)
   ·have HJ3 := hid hJ3
    have HK3 := hid (HNX.out.trans hk3)
    clear hJ3 hk3 hbx
    gi_wp2_with fail
    skip
    go_roundw
    case rel => exact ⟨k + 1, by have := HK.out.1; omega, by simp, HJ3.out, HK3.out⟩
    case measure => have := HK.out.1; simp [intOf]; omega
   ·gi_wp2
    refine bodyPost_ret (results_none rfl _ _ _) rfl ?_
    exact ⟨⟨_, rfl⟩, .inr ⟨k, HK.out.1, hJx3⟩⟩
  ·obtain rfl : k = s.size := by omega
   have hbx : wr.cell? ⟨Bs, 0, none⟩ = some (.string s) := (hnx.cell (p := ⟨Bs, 0, none⟩) (by simp)).trans hBs'
   have HJ := hid hJs
   clear hlt hJs hY h0 hnx hBs'
   gi_wp2
   go_end0
   exact ⟨⟨_, rfl⟩, .inl HJ.out⟩
def sumG (c : Nat → Nat) (s : ByteArray) : Nat → Nat
 | 0 => 0
 | k + 1 => sumG c s k + c (byG s k)
theorem sumG_le {c : Nat → Nat} {m : Nat} (hc : ∀ b, c b ≤ m) (s : ByteArray) : ∀ k, sumG c s k ≤ m * k
 | 0 => Nat.zero_le _
 | k + 1 => by
  have h1 := sumG_le hc s k
  have h2 := hc (byG s k)
  show sumG c s k + c (byG s k) ≤ _
  rw [Nat.mul_succ]
  omega
structure SuG (W : World) (B Bs fc : Nat) (v : Int) (s : ByteArray) (X : World) : Prop where
 F : Has X B 75 #[.func (.func fc) #[] #[]]
 S : Has X (B + 1) 3 #[.int .i64 v]
 T : Has X Bs 9 #[.string s]
 Q : Below B W X
theorem SuG.own {W : World} {B Bs fc n : Nat} {v : Nat → Int} {s : ByteArray} (hn : B + 2 ≤ n) : OwnFrom n (fun k X => SuG W B Bs fc (v k) s X) := fun k X Y row h hg hr =>
 ⟨h.F.grownG hg (fun r e => (hr r e).2), h.S.grownG hg (fun r e => (hr r e).2), h.T.grownG hg (fun r e => (hr r e).2), below_grownG h.Q hg (by have := h.S.lt; omega) (fun r e => by have := (hr r e).1; omega)⟩
theorem sum_exp (W : World) (Bs : Nat) (s : ByteArray) (hs : s.size ≤ 1048576) (hT : Has W Bs 9 #[.string s]) (c : Nat → Nat) (hcm : ∀ b, c b ≤ 50)
  (hc : ∀ b : Nat, b < 256 → Ret Tryd.prog 52 #[.int .u8 (b : Int)] (.int .i64 (c b : Int))) :
  Calls Tryd.prog 48 #[.func (.func 69) #[] #[.pointer (some ⟨Bs, 0, none⟩)], .func (.func 52) #[] #[]] W fun e w' => e = .returned (.int .i64 (sumG c s s.size : Int)) ∧ Below W.heap.size W w' := by
 have hmx : Tryd.prog.follows .mixedOrders = true := by kernel_rfl
 refine (callsIn_wide (n := 6)).1 ?_
 obtain ⟨B, hB⟩ : ∃ B, W.heap.size = B := ⟨_, rfl⟩
 obtain ⟨W1, hW1⟩ : ∃ W1, W.alloc (.cells #[.func (.func 52) #[] #[]] 75) = W1 := ⟨_, rfl⟩
 obtain ⟨W2, hW2⟩ : ∃ W2, W1.alloc (.cells #[.int .i64 0] 3) = W2 := ⟨_, rfl⟩
 have q1 : Below W.heap.size W W1 := hW1 ▸ (Below.refl _ W).alloc (Nat.le_refl _) _
 have q2 : Below W1.heap.size W1 W2 := hW2 ▸ (Below.refl _ W1).alloc (Nat.le_refl _) _
 have z1 : W1.heap.size = B + 1 := by rw [← hW1]; simp [hB]
 have z2 : W2.heap.size = B + 2 := by rw [← hW2]; simp [z1]
 have n1 : Has W1 W.heap.size 75 #[.func (.func 52) #[] #[]] := hW1 ▸ Has.new _ _ _
 have n2 : Has W2 W1.heap.size 3 #[.int .i64 0] := hW2 ▸ Has.new _ _ _
 have hBs := hT.lt
 rw [hB] at n1 hBs q1
 rw [z1] at n2
 have hT2 := (hT.later (hB ▸ q1)).later q2
 have HST0 := hid (show SuG W B Bs 52 ((sumG c s 0 : Nat) : Int) s W2 from ⟨n1.later q2, n2, hT2, q1.trans (q2.mono (by omega))⟩)
 have HSEQ := hid (bytes_seq 5 (by omega) Bs s (by omega) W2 hT2.lt (hT2.cell 0 _ rfl))
 have HLE := hid (sumG_le hcm s)
 have HBY := hid (byG_lt s)
 have HC := hid hc
 have HS := hid hs
 have HZ := hid (And.intro hB (And.intro hBs z2))
 have HCM := hid hcm
 have HS1 : Hid (∀ k, sumG c s (k + 1) = sumG c s k + c (byG s k)) := hid (fun _ => rfl)
 clear q1 q2 n2 hs hc hcm hT hT2 hBs z2
 refine callsIn_of_wp_marks Tryd.func48 rfl trivial ?_ rfl
 simp only [Tryd.ntmps48, List.size_toArray, List.length_cons, List.length_nil, Nat.reduceAdd, Nat.reduceSub, Array.replicate_succ, Array.replicate_zero, List.push_toArray, List.append_toArray, List.nil_append, List.cons_append]
 have HW1 := hid hW1
 have HW2 := hid hW2
 have L0 := Has.new W 75 #[.func (.func 52) #[] #[]]
 have L1 := L0.alloc (.cells #[.int .i64 0] 3)
 have L2 := Has.new (W.alloc (.cells #[.func (.func 52) #[] #[]] 75)) 3 #[.int .i64 0]
 have x0 := L1.cell 0 _ rfl
 have x1 := L2.cell 0 _ rfl
 have y1 := L2.frozen 0
 simp only [World.size_alloc] at x1 y1
 clear hW1 hW2 L0 L1 L2 n1 hB z1
 gi_wp2_with fail
 rw [HW1.out, HW2.out, HZ.out.1]
 clear x0 x1 y1
 refine wpIn_rangeFunc_N1 rfl (by omega) (gf := 69) (lb := #[.pointer (some ⟨Bs, 0, none⟩)]) rfl trivial (enters_of Tryd.func69 (by kernel_rfl) rfl)
  HSEQ.out KeepsAt.trans (KeepsAt.refl _) (KeepsAt.b (by have := HZ.out; simp; omega)) (fun _ _ => rfl)
  (fun k X => SuG W B Bs 52 ((sumG c s k : Nat) : Int) s X) (fun _ _ _ => False) (SuG.own (v := fun k => ((sumG c s k : Nat) : Int)) (by have := HZ.out; omega)) (fun _ => fun _ _ _ _ h => h.elim)
  HST0.out
  (fun k => { tmps := #[.func (.func 69) #[] #[.pointer (some ⟨Bs, 0, none⟩)], .func (.func 52) #[] #[], undef, .pointer (some ⟨B, 0, none⟩), .int .i64 0, .pointer (some ⟨B + 1, 0, none⟩), .int .u8 (byG s k : Int), .func (.func 69) #[] #[.pointer (some ⟨Bs, 0, none⟩)], .int .u8 (byG s k : Int), undef, undef, undef, undef, undef, undef], defers := [] }) ?assign ?body ?done ?stop
 case assign =>
  intro l k X K _ hK
  gi_wp2
  exact hK
 case body =>
  rintro l k X hlX hkN ⟨hF, hS, hT, hQ⟩
  have hle := HLE.out k
  have hstep := HS1.out k
  have hcb := HCM.out (byG s k)
  have HCK := hid (HC.out _ (HBY.out k))
  have hs' := HS.out
  obtain ⟨y, hy⟩ : ∃ y, byG s k = y := ⟨_, rfl⟩
  rw [hy] at HCK hstep hcb ⊢
  obtain ⟨v, hv⟩ : ∃ v : Nat, sumG c s k = v := ⟨_, rfl⟩
  rw [hv] at hS hle hstep
  obtain ⟨d, hd⟩ : ∃ d : Nat, c y = d := ⟨_, rfl⟩
  rw [hd] at HCK hstep hcb
  have v0 : (0 : Int) ≤ (v : Int) := by omega
  have v1 : (v : Int) ≤ 100000000 := by omega
  have d0 : (0 : Int) ≤ (d : Int) := by omega
  have d1 : (d : Int) ≤ 50 := by omega
  have HSTEP := hid (show ((sumG c s (k + 1) : Nat) : Int) = (v : Int) + (d : Int) by rw [hstep]; omega)
  have HH := hid (And.intro hF (And.intro hS (And.intro hT hQ)))
  have e3 : ∀ x : Ext X, x.w.cell? ⟨B, 0, none⟩ = some (.func (.func 52) #[] #[]) := fun x => (hF.later x.below).cell 0 _ rfl
  have e5 : ∀ x : Ext X, x.w.cell? ⟨B + 1, 0, none⟩ = some (.int .i64 (v : Int)) := fun x => (hS.later x.below).cell 0 _ rfl
  have g5 : ∀ x : Ext X, x.w.frozen? ⟨B + 1, 0, none⟩ = false := fun x => (hS.later x.below).frozen 0
  clear hF hS hT hQ hle hstep hcb hs' hy hv hd hkN hlX
  gi_wp2_with fail
  refine wpIn_region_mix (C := Grows X) (free_round l) [some true, some true, some true, some true, some true, none] hmx (by kernel_rfl) (by kernel_rfl) (grows_refl X) ?_
  simp only [headOf, tailOf]
  repeat (go_big_quiet_step (first | (with_reducible exact Ret.at HCK.out _)))
  refine wpQuiet_nil ?_
  rintro _ ⟨x, rfl⟩
  go_wp2
  rw [calmPost_normal]
  have hb := x.below
  refine ⟨(x.keeps _).trans ((KeepsOthers.setCell _ _ _).from _), ?_, ?_⟩
  ·have hz := HZ.out
   exact ((KeepsAt.refl _ _).below hb (fun b hb => by simp at hb; have := HH.out.2.2.1.lt; omega)).setCell (by simp; omega) _
  ·have hz := HZ.out
   show SuG _ _ _ _ ((sumG c s (k + 1) : Nat) : Int) _ _
   rw [HSTEP.out]
   exact ⟨(HH.out.1.later hb).other (by show B ≠ B + 1; omega) _, (HH.out.2.1.later hb).set 0 _, (HH.out.2.2.1.later hb).other (by show Bs ≠ B + 1; omega) _, (HH.out.2.2.2.trans (hb.mono (by have := HH.out.2.1.lt; omega))).setCell (p := ⟨B + 1, 0, none⟩) (by show B ≤ B + 1; omega) _⟩
 case done =>
  rintro D X hD ⟨hF, hS, hT, hQ⟩ hK
  have x0 := hS.cell 0 _ rfl
  have HK := hid hK
  have HQ := hid hQ
  clear hF hS hT hQ hK
  gi_wp2_with fail
  have hz := HZ.out
  refine ⟨by simp, .inl ⟨_, _, rfl, run_takeDeferred HK.out, ?_⟩⟩
  refine ⟨_, (by simp [results, Tryd.f48, go_sem]), rfl, ?_⟩
  rw [hz.1]
  exact HQ.out.trans (belowK_b (w := W) (by omega) _ D _ _ (by omega) HK.out rfl rfl)
 case stop =>
  rintro D cc k X hD hkn h hK
  exact h.elim
theorem sum_data (W : World) (Bs : Nat) (s : ByteArray) (hs : s.size ≤ 1048576) (hT : Has W Bs 9 #[.string s]) (c : Nat → Nat) (hcm : ∀ b, c b ≤ 50)
  (hc : ∀ b : Nat, b < 256 → Ret Tryd.prog 54 #[.int .u8 (b : Int)] (.int .i64 (c b : Int))) :
  Calls Tryd.prog 48 #[.func (.func 69) #[] #[.pointer (some ⟨Bs, 0, none⟩)], .func (.func 54) #[] #[]] W fun e w' => e = .returned (.int .i64 (sumG c s s.size : Int)) ∧ Below W.heap.size W w' := by
 have hmx : Tryd.prog.follows .mixedOrders = true := by kernel_rfl
 refine (callsIn_wide (n := 6)).1 ?_
 obtain ⟨B, hB⟩ : ∃ B, W.heap.size = B := ⟨_, rfl⟩
 obtain ⟨W1, hW1⟩ : ∃ W1, W.alloc (.cells #[.func (.func 54) #[] #[]] 75) = W1 := ⟨_, rfl⟩
 obtain ⟨W2, hW2⟩ : ∃ W2, W1.alloc (.cells #[.int .i64 0] 3) = W2 := ⟨_, rfl⟩
 have q1 : Below W.heap.size W W1 := hW1 ▸ (Below.refl _ W).alloc (Nat.le_refl _) _
 have q2 : Below W1.heap.size W1 W2 := hW2 ▸ (Below.refl _ W1).alloc (Nat.le_refl _) _
 have z1 : W1.heap.size = B + 1 := by rw [← hW1]; simp [hB]
 have z2 : W2.heap.size = B + 2 := by rw [← hW2]; simp [z1]
 have n1 : Has W1 W.heap.size 75 #[.func (.func 54) #[] #[]] := hW1 ▸ Has.new _ _ _
 have n2 : Has W2 W1.heap.size 3 #[.int .i64 0] := hW2 ▸ Has.new _ _ _
 have hBs := hT.lt
 rw [hB] at n1 hBs q1
 rw [z1] at n2
 have hT2 := (hT.later (hB ▸ q1)).later q2
 have HST0 := hid (show SuG W B Bs 54 ((sumG c s 0 : Nat) : Int) s W2 from ⟨n1.later q2, n2, hT2, q1.trans (q2.mono (by omega))⟩)
 have HSEQ := hid (bytes_seq 5 (by omega) Bs s (by omega) W2 hT2.lt (hT2.cell 0 _ rfl))
 have HLE := hid (sumG_le hcm s)
 have HBY := hid (byG_lt s)
 have HC := hid hc
 have HS := hid hs
 have HZ := hid (And.intro hB (And.intro hBs z2))
 have HCM := hid hcm
 have HS1 : Hid (∀ k, sumG c s (k + 1) = sumG c s k + c (byG s k)) := hid (fun _ => rfl)
 clear q1 q2 n2 hs hc hcm hT hT2 hBs z2
 refine callsIn_of_wp_marks Tryd.func48 rfl trivial ?_ rfl
 simp only [Tryd.ntmps48, List.size_toArray, List.length_cons, List.length_nil, Nat.reduceAdd, Nat.reduceSub, Array.replicate_succ, Array.replicate_zero, List.push_toArray, List.append_toArray, List.nil_append, List.cons_append]
 have HW1 := hid hW1
 have HW2 := hid hW2
 have L0 := Has.new W 75 #[.func (.func 54) #[] #[]]
 have L1 := L0.alloc (.cells #[.int .i64 0] 3)
 have L2 := Has.new (W.alloc (.cells #[.func (.func 54) #[] #[]] 75)) 3 #[.int .i64 0]
 have x0 := L1.cell 0 _ rfl
 have x1 := L2.cell 0 _ rfl
 have y1 := L2.frozen 0
 simp only [World.size_alloc] at x1 y1
 clear hW1 hW2 L0 L1 L2 n1 hB z1
 gi_wp2_with fail
 rw [HW1.out, HW2.out, HZ.out.1]
 clear x0 x1 y1
 refine wpIn_rangeFunc_N1 rfl (by omega) (gf := 69) (lb := #[.pointer (some ⟨Bs, 0, none⟩)]) rfl trivial (enters_of Tryd.func69 (by kernel_rfl) rfl)
  HSEQ.out KeepsAt.trans (KeepsAt.refl _) (KeepsAt.b (by have := HZ.out; simp; omega)) (fun _ _ => rfl)
  (fun k X => SuG W B Bs 54 ((sumG c s k : Nat) : Int) s X) (fun _ _ _ => False) (SuG.own (v := fun k => ((sumG c s k : Nat) : Int)) (by have := HZ.out; omega)) (fun _ => fun _ _ _ _ h => h.elim)
  HST0.out
  (fun k => { tmps := #[.func (.func 69) #[] #[.pointer (some ⟨Bs, 0, none⟩)], .func (.func 54) #[] #[], undef, .pointer (some ⟨B, 0, none⟩), .int .i64 0, .pointer (some ⟨B + 1, 0, none⟩), .int .u8 (byG s k : Int), .func (.func 69) #[] #[.pointer (some ⟨Bs, 0, none⟩)], .int .u8 (byG s k : Int), undef, undef, undef, undef, undef, undef], defers := [] }) ?assign ?body ?done ?stop
 case assign =>
  intro l k X K _ hK
  gi_wp2
  exact hK
 case body =>
  rintro l k X hlX hkN ⟨hF, hS, hT, hQ⟩
  have hle := HLE.out k
  have hstep := HS1.out k
  have hcb := HCM.out (byG s k)
  have HCK := hid (HC.out _ (HBY.out k))
  have hs' := HS.out
  obtain ⟨y, hy⟩ : ∃ y, byG s k = y := ⟨_, rfl⟩
  rw [hy] at HCK hstep hcb ⊢
  obtain ⟨v, hv⟩ : ∃ v : Nat, sumG c s k = v := ⟨_, rfl⟩
  rw [hv] at hS hle hstep
  obtain ⟨d, hd⟩ : ∃ d : Nat, c y = d := ⟨_, rfl⟩
  rw [hd] at HCK hstep hcb
  have v0 : (0 : Int) ≤ (v : Int) := by omega
  have v1 : (v : Int) ≤ 100000000 := by omega
  have d0 : (0 : Int) ≤ (d : Int) := by omega
  have d1 : (d : Int) ≤ 50 := by omega
  have HSTEP := hid (show ((sumG c s (k + 1) : Nat) : Int) = (v : Int) + (d : Int) by rw [hstep]; omega)
  have HH := hid (And.intro hF (And.intro hS (And.intro hT hQ)))
  have e3 : ∀ x : Ext X, x.w.cell? ⟨B, 0, none⟩ = some (.func (.func 54) #[] #[]) := fun x => (hF.later x.below).cell 0 _ rfl
  have e5 : ∀ x : Ext X, x.w.cell? ⟨B + 1, 0, none⟩ = some (.int .i64 (v : Int)) := fun x => (hS.later x.below).cell 0 _ rfl
  have g5 : ∀ x : Ext X, x.w.frozen? ⟨B + 1, 0, none⟩ = false := fun x => (hS.later x.below).frozen 0
  clear hF hS hT hQ hle hstep hcb hs' hy hv hd hkN hlX
  gi_wp2_with fail
  refine wpIn_region_mix (C := Grows X) (free_round l) [some true, some true, some true, some true, some true, none] hmx (by kernel_rfl) (by kernel_rfl) (grows_refl X) ?_
  simp only [headOf, tailOf]
  repeat (go_big_quiet_step (first | (with_reducible exact Ret.at HCK.out _)))
  refine wpQuiet_nil ?_
  rintro _ ⟨x, rfl⟩
  go_wp2
  rw [calmPost_normal]
  have hb := x.below
  refine ⟨(x.keeps _).trans ((KeepsOthers.setCell _ _ _).from _), ?_, ?_⟩
  ·have hz := HZ.out
   exact ((KeepsAt.refl _ _).below hb (fun b hb => by simp at hb; have := HH.out.2.2.1.lt; omega)).setCell (by simp; omega) _
  ·have hz := HZ.out
   show SuG _ _ _ _ ((sumG c s (k + 1) : Nat) : Int) _ _
   rw [HSTEP.out]
   exact ⟨(HH.out.1.later hb).other (by show B ≠ B + 1; omega) _, (HH.out.2.1.later hb).set 0 _, (HH.out.2.2.1.later hb).other (by show Bs ≠ B + 1; omega) _, (HH.out.2.2.2.trans (hb.mono (by have := HH.out.2.1.lt; omega))).setCell (p := ⟨B + 1, 0, none⟩) (by show B ≤ B + 1; omega) _⟩
 case done =>
  rintro D X hD ⟨hF, hS, hT, hQ⟩ hK
  have x0 := hS.cell 0 _ rfl
  have HK := hid hK
  have HQ := hid hQ
  clear hF hS hT hQ hK
  gi_wp2_with fail
  have hz := HZ.out
  refine ⟨by simp, .inl ⟨_, _, rfl, run_takeDeferred HK.out, ?_⟩⟩
  refine ⟨_, (by simp [results, Tryd.f48, go_sem]), rfl, ?_⟩
  rw [hz.1]
  exact HQ.out.trans (belowK_b (w := W) (by omega) _ D _ _ (by omega) HK.out rfl rfl)
 case stop =>
  rintro D cc k X hD hkn h hK
  exact h.elim
theorem fifty_ret (b : Nat) : Ret Tryd.prog 52 #[.int .u8 (b : Int)] (.int .i64 ((50 : Nat) : Int)) := by
 refine Ret.of_same fun w => ?_
 go_enter Tryd.func52, Tryd.ntmps52
 go_wp2
 go_ret
 exact ⟨rfl, rfl⟩
def costB (b : Nat) : Nat := if b = 0 then 4 else 16
theorem costB_le (b : Nat) : costB b ≤ 50 := by unfold costB; split <;> omega
theorem ofByte_ret (b : Nat) (_hb : b < 256) : Ret Tryd.prog 54 #[.int .u8 (b : Int)] (.int .i64 ((costB b : Nat) : Int)) := by
 refine Ret.of_same fun w => ?_
 unfold costB
 by_cases h : b = 0
 ·subst h
  rw [if_pos rfl]
  go_enter Tryd.func54, Tryd.ntmps54
  go_wp2
  go_ret
  exact ⟨rfl, rfl⟩
 ·rw [if_neg h]
  have h0 : ((b : Int) == 0) = false := by simpa using h
  have h1 : ¬ (b : Int) = 0 := by omega
  go_enter Tryd.func54, Tryd.ntmps54
  go_wp2
  go_ret
  exact ⟨rfl, rfl⟩
def lzF (s : ByteArray) : Nat → Nat → Nat
 | 0, k => k
 | f + 1, k => if k < s.size ∧ byG s k = 0 then lzF s f (k + 1) else k
def lzG (s : ByteArray) : Nat := lzF s s.size 0
theorem lzF_spec (s : ByteArray) : ∀ f k, k ≤ s.size → s.size - k ≤ f → k ≤ lzF s f k ∧ lzF s f k ≤ s.size ∧ (∀ j, k ≤ j → j < lzF s f k → byG s j = 0) ∧ (lzF s f k < s.size → byG s (lzF s f k) ≠ 0)
 | 0, k, h1, h2 => by
  unfold lzF
  exact ⟨Nat.le_refl _, h1, fun j h3 h4 => by omega, fun h => by omega⟩
 | f + 1, k, h1, h2 => by
  unfold lzF
  split
  ·rename_i h
   obtain ⟨a, b, c, d⟩ := lzF_spec s f (k + 1) (by omega) (by omega)
   refine ⟨by omega, b, fun j h3 h4 => ?_, d⟩
   by_cases e : j = k
   ·rw [e]; exact h.2
   ·exact c j (by omega) h4
  ·rename_i h
   refine ⟨Nat.le_refl _, h1, fun j h3 h4 => by omega, fun h3 h4 => h ⟨h3, h4⟩⟩
theorem lzG_le (s : ByteArray) : lzG s ≤ s.size := (lzF_spec s s.size 0 (Nat.zero_le _) (by omega)).2.1
theorem lzG_zero (s : ByteArray) {j : Nat} (h : j < lzG s) : byG s j = 0 := (lzF_spec s s.size 0 (Nat.zero_le _) (by omega)).2.2.1 j (Nat.zero_le _) h
theorem lzG_stop (s : ByteArray) (h : lzG s < s.size) : byG s (lzG s) ≠ 0 := (lzF_spec s s.size 0 (Nat.zero_le _) (by omega)).2.2.2 h
theorem tail_size (s : ByteArray) (k : Nat) (_hk : k ≤ s.size) : (s.extract k s.size).size = s.size - k := by simp [ByteArray.size_extract]
theorem tail_byte (s : ByteArray) (k : Nat) (h : k < s.size) (h' : 0 < (s.extract k s.size).size) : (s.extract k s.size)[0].toNat = byG s k := by
 rw [← byG_at s k h]
 congr 1
 rw [ByteArray.getElem_extract]
 congr 1
theorem tail_tail (s : ByteArray) (k : Nat) (h : k < s.size) : (s.extract k s.size).extract 1 (s.extract k s.size).size = s.extract (k + 1) s.size := by
 rw [tail_size s k (by omega)]
 ext1
 simp only [ByteArray.data_extract, Array.extract_extract]
 congr 1
 omega
def szB (v : Value) : Nat := match v with | .string s => s.size | _ => 0
theorem trimByte_ret (s : ByteArray) (hs : s.size ≤ 1000000) : Ret Tryd.prog 70 #[.string s, .int .u8 0] (.string (s.extract (lzG s) s.size)) := by
 refine Ret.of_same fun w => ?_
 have HE := hid (show s.extract 0 s.size = s by simp)
 have HS := hid hs
 have HL := hid (And.intro (lzG_le s) (And.intro (@lzG_zero s) (lzG_stop s)))
 clear hs
 go_enter Tryd.func70, Tryd.ntmps70
 go_wp2
 go_loopw [0] (fun v wr => ∃ k : Nat, k ≤ lzG s ∧ v = .string (s.extract k s.size) ∧ wr = w) (fun v _ => szB v)
 case atStart => exact ⟨0, Nat.zero_le _, by rw [HE.out], rfl⟩
 case round =>
  obtain ⟨k, hk, rfl, rfl⟩ := hrel
  obtain ⟨r, hr⟩ : ∃ r, r = s.extract k s.size := ⟨_, rfl⟩
  have h1 : r.size = s.size - k := by rw [hr]; exact tail_size s k (by have := HL.out.1; omega)
  have HR := hid hr
  have rm : (r.size : Int) ≤ 1000000 := by have := HS.out; omega
  by_cases hlt : k < s.size
  ·have hb0 : ∀ h : 0 < r.size, r[0].toNat = byG s k := by subst hr; exact fun h => tail_byte s k hlt h
   have ht : r.extract 1 r.size = s.extract (k + 1) s.size := by rw [hr]; exact tail_tail s k hlt
   have hsz2 := tail_size s (k + 1) (by omega)
   obtain ⟨r2, hr2⟩ : ∃ r2, s.extract (k + 1) s.size = r2 := ⟨_, rfl⟩
   rw [hr2] at ht hsz2
   rw [← hr]
   clear hr
   have h1' : 0 < r.size := by omega
   have hb := hb0 h1'
   clear hb0
   by_cases hlz : k < lzG s
   ·have h0 := HL.out.2.1 hlz
    rw [h0] at hb
    have r0 : (0 : Int) < (r.size : Int) := by omega
    have r1 : (1 : Int) ≤ (r.size : Int) := by omega
    have HX := hid (And.intro hlz (And.intro hr2 (And.intro hsz2 h1)))
    clear hlz hr2 hsz2 h0 hk HE h1
    go_wp2
    go_roundw
    case rel => exact ⟨k + 1, HX.out.1, by rw [HX.out.2.1], trivial⟩
    case measure => have := HX.out.2.2; simp only [szB]; omega
   ·obtain rfl : k = lzG s := by omega
    have h0 := HL.out.2.2 hlt
    rw [← hb] at h0
    have r0 : (0 : Int) < (r.size : Int) := by omega
    have r1 : (1 : Int) ≤ (r.size : Int) := by omega
    obtain ⟨y, hy⟩ : ∃ y, r[0].toNat = y := ⟨_, rfl⟩
    rw [hy] at h0
    have y0 : ((y : Int) == 0) = false := by simpa using h0
    have y1 : ¬ (y : Int) = 0 := by omega
    clear hb h1 hr2 hsz2 h0 hk HE hlz ht
    go_wp2
    go_ret
    exact ⟨by rw [HR.out]; rfl, rfl⟩
  ·obtain rfl : k = lzG s := by have := HL.out.1; omega
   rw [← hr]
   have r0 : ¬ (0 : Int) < (r.size : Int) := by omega
   clear hlt hk HE h1 hr
   go_wp2
   go_ret
   exact ⟨by rw [HR.out]; rfl, rfl⟩
theorem trim_ret (s : ByteArray) (hs : s.size ≤ 1000000) (h0 : 0 < s.size) : Ret Tryd.prog 50 #[.string s, .string ⟨#[0]⟩] (.string (s.extract (lzG s) s.size)) := by
 intro w
 have H1 := hid (trimByte_ret s hs)
 have e1 : s.toList.isEmpty = false := by
  rw [ByteArray.toList_eq]
  have h : s.data.toList.length = s.size := by simp
  cases hl : s.data.toList with
  | nil => rw [hl] at h; simp at h; omega
  | cons c r => rfl
 have e2 : (⟨#[0]⟩ : ByteArray).toList.isEmpty = false := by decide +kernel
 clear hs h0
 obtain ⟨r, hr⟩ : ∃ r, s.extract (lzG s) s.size = r := ⟨_, rfl⟩
 rw [hr] at H1 ⊢
 clear hr
 go_enter Tryd.func50, Tryd.ntmps50
 go_wp2_with fail
 refine (H1.out _).mono ?_
 rintro e w1 ⟨rfl, q1⟩
 go_wp2
 go_ret
 exact ⟨rfl, q1⟩
theorem sumG_const (m : Nat) (s : ByteArray) : ∀ k, sumG (fun _ => m) s k = m * k
 | 0 => rfl
 | k + 1 => by show sumG (fun _ => m) s k + m = _; rw [sumG_const m s k, Nat.mul_succ]
def nbG (a : Nat) : Nat := 32 - lzG (bytesOf a)
theorem nbG_le (a : Nat) : nbG a ≤ 32 := by unfold nbG; omega
theorem bytesOf_size32 (a : Nat) : (bytesOf a).size = 32 := by simp [bytesOf, strOfNums, ByteArray.size]
theorem exp_retG (a : Nat) (ha : W256 a) : Ret Tryd.prog 27 #[wv a] (.int .i64 ((50 * nbG a : Nat) : Int)) := by
 intro w
 have hsz := bytesOf_size32 a
 have HB := hid (bytes_ret a ha)
 have hle := lzG_le (bytesOf a)
 have HT := hid (trim_ret (bytesOf a) (by omega) (by omega))
 have e1 := tail_size (bytesOf a) (lzG (bytesOf a)) hle
 obtain ⟨r, hr⟩ : ∃ r, (bytesOf a).extract (lzG (bytesOf a)) (bytesOf a).size = r := ⟨_, rfl⟩
 rw [hr] at HT e1
 rw [hsz] at e1 hle
 have e2 : r.size = nbG a := e1
 have HS := hid (fun (W : World) (Bs : Nat) h => sum_exp W Bs r (by have := nbG_le a; omega) h (fun _ => 50) (fun _ => Nat.le_refl _) (fun b _ => fifty_ret b))
 have HM := hid (fun (W : World) => bytes_mk W r)
 have HR := hid (show sumG (fun _ => 50) r r.size = 50 * nbG a by rw [sumG_const, e2])
 obtain ⟨bs, hbs⟩ : ∃ bs, bytesOf a = bs := ⟨_, rfl⟩
 rw [hbs] at HB HT
 clear hr e1 hle hsz hbs e2 ha
 unfold wv at *
 have k0 := (Has.new w 24 #[.int .u64 (lim a 0), .int .u64 (lim a 1), .int .u64 (lim a 2), .int .u64 (lim a 3)]).cell 0 _ rfl
 have k1 := (Has.new w 24 #[.int .u64 (lim a 0), .int .u64 (lim a 1), .int .u64 (lim a 2), .int .u64 (lim a 3)]).cell 1 _ rfl
 have k2 := (Has.new w 24 #[.int .u64 (lim a 0), .int .u64 (lim a 1), .int .u64 (lim a 2), .int .u64 (lim a 3)]).cell 2 _ rfl
 have k3 := (Has.new w 24 #[.int .u64 (lim a 0), .int .u64 (lim a 1), .int .u64 (lim a 2), .int .u64 (lim a 3)]).cell 3 _ rfl
 have Q := newA w (.cells #[.int .u64 (lim a 0), .int .u64 (lim a 1), .int .u64 (lim a 2), .int .u64 (lim a 3)] 24)
 go_enter Tryd.func27, Tryd.ntmps27
 go_wp2_with fail
 clear k0 k1 k2 k3
 refine (HB.out _).mono ?_
 rintro e w1 ⟨rfl, q1⟩
 have Q := Q.trans (q1.mono Q.size)
 clear q1
 go_wp2_with fail
 refine (HT.out _).mono ?_
 rintro e w2 ⟨rfl, q1⟩
 have Q := Q.trans (q1.mono Q.size)
 clear q1
 go_wp2_with fail
 refine (HM.out _).mono ?_
 rintro e w3 ⟨rfl, hw3⟩
 have L := Has.new w2 9 #[.string r]
 have Q := Q.alloc Q.size (.cells #[.string r] 9)
 rw [← hw3] at L Q
 generalize w2.heap.size = b at *
 clear hw3
 go_wp2_with fail
 refine (HS.out _ _ L).mono ?_
 rintro e w4 ⟨rfl, q1⟩
 have Q := Q.trans (q1.mono Q.size)
 clear q1 L
 rw [HR.out]
 go_wp2
 go_ret
 exact ⟨rfl, Q⟩
def dataN (s : ByteArray) : Nat := sumG costB s s.size
def startN (s : ByteArray) (c : Bool) : Int := 21000 + (dataN s : Int) + (if c then 32000 + initN s.size false else 0)
theorem dataN_le (s : ByteArray) (hs : s.size ≤ 1048576) : dataN s ≤ 50 * 1048576 := by
 have := sumG_le costB_le s s.size
 unfold dataN
 omega
theorem start_ret (s : ByteArray) (hs : s.size ≤ 1048576) (c : Bool) : Ret Tryd.prog 31 #[.string s, .bool c] (.int .i64 (startN s c)) := by
 intro w
 have hm := many_ret (s.size : Int)
 rw [manyN_in (by omega) (by omega)] at hm
 have H1 := hid hm
 have HS := hid (fun (W : World) (Bs : Nat) h => sum_data W Bs s hs h costB costB_le ofByte_ret)
 have HM := hid (fun (W : World) => bytes_mk W s)
 have HI := hid (init_ret (s.size : Int) false)
 have g := initN_range (s.size : Int) false
 have gd := dataN_le s hs
 have he : s.extract 0 s.size = s := by simp
 have n1 : (s.size : Int) ≤ 1048576 := by omega
 unfold startN
 change Hid (∀ (W : World) (Bs : Nat), _ → Calls _ _ _ W fun e w' => e = .returned (.int .i64 ((dataN s : Nat) : Int)) ∧ _) at HS
 obtain ⟨d, hd⟩ : ∃ d, dataN s = d := ⟨_, rfl⟩
 rw [hd] at HS gd ⊢
 obtain ⟨n, hn⟩ : ∃ n, initN (s.size : Int) false = n := ⟨_, rfl⟩
 rw [hn] at HI g ⊢
 obtain ⟨g0, g1⟩ := g
 have d0 : (0 : Int) ≤ (d : Int) := by omega
 have d1 : (d : Int) ≤ 100000000 := by omega
 clear hm hs hd hn gd
 cases c
 all_goals
  go_enter Tryd.func31, Tryd.ntmps31
  go_wp2_with fail
  refine (H1.out _).mono ?_
  rintro e w1 ⟨rfl, q1⟩
  have Q := q1
  clear q1
  go_wp2_with fail
  refine (HM.out _).mono ?_
  rintro e w3 ⟨rfl, hw3⟩
  have L := Has.new w1 9 #[.string s]
  have Q := Q.alloc Q.size (.cells #[.string s] 9)
  rw [← hw3] at L Q
  generalize w1.heap.size = b at *
  clear hw3
  go_wp2_with fail
  refine (HS.out _ _ L).mono ?_
  rintro e w4 ⟨rfl, q1⟩
  have Q := Q.trans (q1.mono Q.size)
  clear q1 L
  go_wp2_with fail
  try
   refine (HI.out _).mono ?_
   rintro e w5 ⟨rfl, q1⟩
   have Q := Q.trans (q1.mono Q.size)
   clear q1
   go_wp2
  go_ret
  exact ⟨by simp; try omega, Q⟩
theorem rexp_ret (a : Nat) : Ret Tryd.prog 28 #[wv a] (.int .i64 ((50 * nbG a : Nat) : Int)) := by
 intro w
 have HB := hid (refBytes_ret a)
 have hsz := bytesOf_size32 a
 have hle := lzG_le (bytesOf a)
 have HZ := hid (fun j (h : j < lzG (bytesOf a)) => lzG_zero (bytesOf a) h)
 have HN := hid (lzG_stop (bytesOf a))
 have HE := hid (show nbG a = 32 - lzG (bytesOf a) from rfl)
 obtain ⟨n, hn⟩ : ∃ n, nbG a = n := ⟨_, rfl⟩
 obtain ⟨bs, hbs⟩ : ∃ bs, bytesOf a = bs := ⟨_, rfl⟩
 obtain ⟨z, hz⟩ : ∃ z, lzG bs = z := ⟨_, rfl⟩
 have hat := fun k (h : k < bs.size) => byG_at bs k h
 rw [hbs] at HB hsz hle HZ HN HE
 rw [hz] at hle HZ HN HE
 rw [hn] at HE ⊢
 obtain ⟨fin, hfin⟩ : ∃ fin : Int, ((50 * n : Nat) : Int) = fin := ⟨_, rfl⟩
 rw [hfin]
 have HF := hid hfin
 rw [hsz] at hle HN
 have hsI : (bs.size : Int) = 32 := by omega
 have HL := hid hle
 have HA := hid hat
 unfold wv at *
 have k0 := (Has.new w 24 #[.int .u64 (lim a 0), .int .u64 (lim a 1), .int .u64 (lim a 2), .int .u64 (lim a 3)]).cell 0 _ rfl
 have k1 := (Has.new w 24 #[.int .u64 (lim a 0), .int .u64 (lim a 1), .int .u64 (lim a 2), .int .u64 (lim a 3)]).cell 1 _ rfl
 have k2 := (Has.new w 24 #[.int .u64 (lim a 0), .int .u64 (lim a 1), .int .u64 (lim a 2), .int .u64 (lim a 3)]).cell 2 _ rfl
 have k3 := (Has.new w 24 #[.int .u64 (lim a 0), .int .u64 (lim a 1), .int .u64 (lim a 2), .int .u64 (lim a 3)]).cell 3 _ rfl
 have Q := newA w (.cells #[.int .u64 (lim a 0), .int .u64 (lim a 1), .int .u64 (lim a 2), .int .u64 (lim a 3)] 24)
 clear hbs hz hn hle hat hfin
 go_enter Tryd.func28, Tryd.ntmps28
 go_wp2_with fail
 clear k0 k1 k2 k3
 refine (HB.out _).mono ?_
 rintro e w1 ⟨rfl, q1⟩
 have Q := hid (Q.trans (q1.mono Q.size))
 clear q1
 go_wp2_with fail
 go_loopw [4, 5] (fun nv iv wr => ∃ k : Nat, k ≤ z ∧ nv = .int .i64 (32 - (k : Int)) ∧ iv = .int .i64 (k : Int) ∧ wr = w1) (fun _ iv _ => 32 - (intOf iv).toNat)
 case atStart => exact ⟨0, Nat.zero_le _, rfl, rfl, rfl⟩
 case round =>
  obtain ⟨k, hk, rfl, rfl, rfl⟩ := hrel
  have hk0 : (0 : Int) ≤ (k : Int) := by omega
  have hk32 : (k : Int) ≤ 32 := by have := HL.out; omega
  by_cases hlt : k < 32
  ·have hltI : (k : Int) < 32 := by omega
   have hks : k < bs.size := by omega
   have hb := HA.out k hks
   by_cases hlz : k < z
   ·have h0 := HZ.out k hlz
    rw [h0] at hb
    have HK := hid hlz
    clear hk hlt hlz h0
    go_wp2
    go_roundw
    case rel => exact ⟨k + 1, HK.out, by congr 1; omega, by simp, trivial⟩
    case measure => simp only [intOf]; omega
   ·obtain rfl : k = z := by omega
    have h0 := HN.out hlt
    obtain ⟨y, hy⟩ : ∃ y, bs[k].toNat = y := ⟨_, rfl⟩
    rw [← hb, hy] at h0
    have y0 : ((y : Int) == 0) = false := by simpa using h0
    have y1 : ¬ (y : Int) = 0 := by omega
    have HK := hid (show (50 : Int) * (32 - (k : Int)) = fin by rw [← HF.out, HE.out]; omega)
    clear hb hk hlt hlz h0
    go_wp2
    go_ret
    exact ⟨by rw [HK.out]; rfl, Q.out⟩
  ·obtain rfl : k = z := by have := HL.out; omega
   have hltI : ¬ (k : Int) < 32 := by omega
   have HK := hid (show (50 : Int) * (32 - (k : Int)) = fin by rw [← HF.out, HE.out]; omega)
   clear hk hlt
   go_wp2
   go_ret
   exact ⟨by rw [HK.out]; rfl, Q.out⟩
theorem rstart_cut (s : ByteArray) (hs : s.size ≤ 1048576) (c : Bool) (fin : Int) (hfin : startN s c = fin) : Ret Tryd.prog 32 #[.string s, .bool c] (.int .i64 fin) := by
 intro w
 have HM := hid (show Ret Tryd.prog 38 #[.int .i64 (s.size : Int)] (.int .i64 (s.size : Int)) by
  have h := rmany_ret (s.size : Int)
  rwa [manyN_in (by omega) (by omega)] at h)
 have HI := hid (rinit_ret (s.size : Int) false)
 have hir := initN_range (s.size : Int) false
 obtain ⟨m, hm⟩ : ∃ m, initN (s.size : Int) false = m := ⟨_, rfl⟩
 have HSL := hid (fun k => sumG_le costB_le s k)
 have HAT := hid (fun k (h : k < s.size) => byG_at s k h)
 unfold startN dataN at hfin
 rw [hm] at HI hir hfin
 have HF := hid hfin
 obtain ⟨sz, hsz⟩ : ∃ sz, s.size = sz := ⟨_, rfl⟩
 have HR := hid (And.intro hir hs)
 have sI : (sz : Int) ≤ 1048576 := by omega
 have HX := hid hsz
 clear hir hs hfin hm hsz
 go_enter Tryd.func32, Tryd.ntmps32
 go_wp2_with fail
 go_loopw [5, 6] (fun nv iv wr => ∃ k : Nat, k ≤ sz ∧ nv = .int .i64 (21000 + (sumG costB s k : Int)) ∧ iv = .int .i64 (k : Int) ∧ Below w.heap.size w wr) (fun _ iv _ => sz - (intOf iv).toNat)
 case atStart => exact ⟨0, Nat.zero_le _, rfl, rfl, Below.refl _ _⟩
 case round =>
  obtain ⟨k, hk, rfl, rfl, hq⟩ := hrel
  have Q := hid hq
  clear hq
  have hv := HSL.out k
  have hsm := HR.out.2
  have hsx := HX.out
  have v2 : 50 * k ≤ 52428800 := by omega
  obtain ⟨v, hvv⟩ : ∃ v, sumG costB s k = v := ⟨_, rfl⟩
  rw [hvv] at hv ⊢
  have v0 : (0 : Int) ≤ (v : Int) := by omega
  have v1 : (v : Int) ≤ 52428800 := by omega
  have HV := hid hvv
  have HKS := hid hk
  have hk0 : (0 : Int) ≤ (k : Int) := by omega
  have hk1 : (k : Int) ≤ 1048576 := by omega
  clear hvv hk hv v2 hsm
  by_cases hlt : k < sz
  ·have hltI : (k : Int) < (s.size : Int) := by omega
   have hks : k < s.size := by omega
   have hb := HAT.out k hks
   have HSTEP := hid (show (sumG costB s (k + 1)) = v + costB (byG s k) by rw [← HV.out]; rfl)
   have HK := hid hlt
   rw [← hb] at HSTEP
   clear hlt hb hsx
   go_wp2_with fail
   refine (HM.out _).mono ?_
   rintro e w3 ⟨rfl, q3⟩
   have Q3 := hid (Q.out.trans (q3.mono Q.out.size))
   clear q3
   obtain ⟨y, hy⟩ : ∃ y, s[k].toNat = y := ⟨_, rfl⟩
   rw [hy] at HSTEP
   by_cases h0 : y = 0
   ·have HC := hid (show costB y = 4 from if_pos h0)
    rw [h0] at hy
    clear h0
    go_wp2
    go_roundw
    case rel => exact ⟨k + 1, HK.out, by rw [HSTEP.out, HC.out]; congr 1, by simp, Q3.out⟩
    case measure => have := HK.out; simp only [intOf]; omega
   ·have HC := hid (show costB y = 16 from if_neg h0)
    have y0 : ((y : Int) == 0) = false := by simpa using h0
    have y1 : ¬ (y : Int) = 0 := by omega
    clear h0
    go_wp2
    go_roundw
    case rel => exact ⟨k + 1, HK.out, by rw [HSTEP.out, HC.out]; congr 1, by simp, Q3.out⟩
    case measure => have := HK.out; simp only [intOf]; omega
  ·obtain rfl : k = sz := by have := HKS.out; omega
   have hltI : ¬ (k : Int) < (s.size : Int) := by omega
   have HVV := hid (show sumG costB s s.size = v by rw [hsx]; exact HV.out)
   have hF := HF.out
   rw [HVV.out] at hF
   clear hlt hsx
   go_wp2_with fail
   refine (HM.out _).mono ?_
   rintro e w3 ⟨rfl, q3⟩
   have Q3 := hid (Q.out.trans (q3.mono Q.out.size))
   clear q3
   have hm0 := HR.out.1.1
   have hm1 := HR.out.1.2
   cases c with
   | false =>
    have HG := hid (show 21000 + (v : Int) = fin by rw [← hF]; simp)
    clear hF
    go_wp2_with fail
    go_ret
    exact ⟨by rw [HG.out]; rfl, Q3.out⟩
   | true =>
    have HG := hid (show 21000 + (v : Int) + 32000 + m = fin by rw [← hF]; simp; omega)
    clear hF
    go_wp2_with fail
    refine (HI.out _).mono ?_
    rintro e w4 ⟨rfl, q4⟩
    have Q4 := hid (Q3.out.trans (q4.mono Q3.out.size))
    clear q4
    go_wp2
    go_ret
    exact ⟨by rw [HG.out]; rfl, Q4.out⟩
theorem rstart_ret (s : ByteArray) (hs : s.size ≤ 1048576) (c : Bool) : Ret Tryd.prog 32 #[.string s, .bool c] (.int .i64 (startN s c)) := rstart_cut s hs c _ rfl
end
section
open Go Go.RowKit
attribute [local go_sem] Oper.semAt_some Grows wide_fn
def adB (n i : Nat) : Nat := n / 256 ^ (19 - i) % 256
def adL (n : Nat) : List Value := (List.range 20).map fun i => .int .u8 ((adB n i : Nat) : Int)
theorem adL_len (n : Nat) : (adL n).length = 20 := by simp [adL]
def lowB : Nat → Nat → List UInt8
 | 0, _ => []
 | k + 1, n => UInt8.ofNat (n / 256 ^ k % 256) :: lowB k n
def acmp (a b : Nat) : Int := if a < b then -1 else if b < a then 1 else 0
theorem byte_lt (a b : Nat) (ha : a < 256) (hb : b < 256) : (UInt8.ofNat a < UInt8.ofNat b) ↔ a < b := by
 rw [UInt8.lt_iff_toNat_lt, UInt8.toNat_ofNat', UInt8.toNat_ofNat', Nat.mod_eq_of_lt ha, Nat.mod_eq_of_lt hb]
theorem split_at (k n : Nat) : n % 256 ^ (k + 1) = n / 256 ^ k % 256 * 256 ^ k + n % 256 ^ k := by
 rw [Nat.pow_succ, Nat.mod_mul, Nat.mul_comm (256 ^ k), Nat.add_comm]
theorem cmp_low : ∀ (k a b : Nat), Lib.compareBytes (lowB k a) (lowB k b) = acmp (a % 256 ^ k) (b % 256 ^ k)
 | 0, a, b => by simp [lowB, Lib.compareBytes, acmp, Nat.mod_one]
 | k + 1, a, b => by
  have ih := cmp_low k a b
  have ha : a / 256 ^ k % 256 < 256 := Nat.mod_lt _ (by decide)
  have hb : b / 256 ^ k % 256 < 256 := Nat.mod_lt _ (by decide)
  have h1 := byte_lt _ _ ha hb
  have h2 := byte_lt _ _ hb ha
  rw [lowB, lowB, Lib.compareBytes, ih, split_at, split_at]
  have hp : 0 < 256 ^ k := Nat.pow_pos (by decide)
  have la : a % 256 ^ k < 256 ^ k := Nat.mod_lt _ hp
  have lb : b % 256 ^ k < 256 ^ k := Nat.mod_lt _ hp
  generalize a / 256 ^ k % 256 = x at *
  generalize b / 256 ^ k % 256 = y at *
  generalize a % 256 ^ k = p at *
  generalize b % 256 ^ k = q at *
  generalize 256 ^ k = r at *
  unfold acmp
  by_cases hxy : x < y
  ·have : (x + 1) * r ≤ y * r := Nat.mul_le_mul_right r hxy
   rw [Nat.add_mul] at this
   rw [if_pos (h1.2 hxy), if_pos (by omega)]
  ·by_cases hyx : y < x
   ·have : (y + 1) * r ≤ x * r := Nat.mul_le_mul_right r hyx
    rw [Nat.add_mul] at this
    rw [if_neg (fun h => hxy (h1.1 h)), if_pos (h2.2 hyx), if_neg (by omega), if_pos (by omega)]
   ·obtain rfl : x = y := by omega
    rw [if_neg (fun h => hxy (h1.1 h)), if_neg (fun h => hyx (h2.1 h))]
    by_cases hpq : p < q
    ·rw [if_pos hpq, if_pos (by omega)]
    ·by_cases hqp : q < p
     ·rw [if_neg hpq, if_pos hqp, if_neg (by omega), if_pos (by omega)]
     ·rw [if_neg hpq, if_neg hqp, if_neg (by omega), if_neg (by omega)]
theorem lowB_len : ∀ (k n : Nat), (lowB k n).length = k
 | 0, _ => rfl
 | k + 1, n => by rw [lowB, List.length_cons, lowB_len k n]
theorem lowB_at : ∀ (k n j : Nat), j < k → (lowB k n)[j]? = some (UInt8.ofNat (n / 256 ^ (k - 1 - j) % 256))
 | 0, _, _, h => by omega
 | k + 1, n, 0, _ => by rw [lowB]; simp
 | k + 1, n, j + 1, h => by
  rw [lowB, List.getElem?_cons_succ, lowB_at k n j (by omega)]
  rw [show k - 1 - j = k + 1 - 1 - (j + 1) by omega]
def AdAt (W : World) (p : Addr) (n : Nat) : Prop := ∀ j : Nat, j < 20 → W.cell? (p.add j) = some (.int .u8 ((adB n j : Nat) : Int))
def adC (n : Nat) : Array Value := (adL n).toArray
theorem adL_at (n j : Nat) (h : j < 20) : (adL n)[j]? = some (.int .u8 ((adB n j : Nat) : Int)) := by simp [adL, h]
theorem add_lit (B o j : Nat) : (⟨B, o, none⟩ : Addr).add j = ⟨B, o + j, none⟩ := by unfold Addr.add; split <;> simp_all
theorem acmp_zero (a b : Nat) : acmp a b = 0 ↔ a = b := by
 unfold acmp
 split
 ·constructor <;> intro h <;> omega
 ·split
  ·constructor <;> intro h <;> omega
  ·constructor <;> intro h <;> omega
def eqA (a b : Nat) : Bool := (List.range 20).all fun j => adB a j == adB b j
theorem eqA_iff {a b : Nat} (ha : a < 256 ^ 20) (hb : b < 256 ^ 20) : eqA a b = decide (a = b) := by
 rw [Bool.eq_iff_iff, decide_eq_true_eq]
 unfold eqA
 rw [List.all_eq_true]
 constructor
 ·intro h
  have hl : lowB 20 a = lowB 20 b := by
   apply List.ext_getElem?
   intro j
   by_cases hj : j < 20
   ·rw [lowB_at 20 a j hj, lowB_at 20 b j hj]
    have e := h j (List.mem_range.2 hj)
    have e' : adB a j = adB b j := by simpa using e
    unfold adB at e'
    rw [show 20 - 1 - j = 19 - j by omega, e']
   ·rw [List.getElem?_eq_none (by rw [lowB_len]; omega), List.getElem?_eq_none (by rw [lowB_len]; omega)]
  have k1 := cmp_low 20 a b
  have k2 := cmp_low 20 b b
  rw [hl, k2] at k1
  rw [Nat.mod_eq_of_lt ha, Nat.mod_eq_of_lt hb] at k1
  rw [(acmp_zero b b).2 rfl] at k1
  exact (acmp_zero a b).1 k1.symm
 ·rintro rfl j _
  exact beq_self_eq_true _
theorem adC_get (n i : Nat) (h : i < 20) : (adC n)[i]? = some (.int .u8 ((adB n i : Nat) : Int)) := by simp [adC, adL_at n i h]
theorem part20 (n : Nat) (i : Nat) (hi : i < 20) (w : World) : (part 5 (adC n) i).run Tryd.prog w = .ok (.int .u8 ((adB n i : Nat) : Int)) w := by
 have a3 := Tryd.isAgg5
 have hg := adC_get n i hi
 unfold part
 simp [go_sem, a3, hg]
theorem equal_u8 (d : Nat) (x y : Int) (w : World) : (Op.equalIn (d + 1) 5 (.int .u8 x) (.int .u8 y)).run Tryd.prog w = .ok (x == y) w := by
 rw [Op.equalIn]
 simp only [Sem.run_bind, run_underlying Tryd.underlying5, Result.andThen_ok]
 simp [go_sem]
theorem wpList_load_known {P : Program} {ops : Array Oper} {rest : List Oper} {o : Oper} {a : Act} {w : World} {Q : Exit → Act → World → Prop} (hw : Region.wanted o (yielded ops a.tmps) = true) (ty : TypeId) (x : Operand) (ho : o.op = .load ty x) (p : Addr) (hx : a.eval x = .pointer (some p)) (v : Value) (hr : (loadVar ty p).run P w = .ok v w)
  (h : wpList P ops Q rest (a.put o.dst v) w) : wpList P ops Q (o :: rest) a w :=
 wpList_step fun _ hK => by
  rw [if_pos hw]
  unfold Oper.wp execOp
  simp only [ho, hx, Instr.loadAt, Instr.sureAddr, Sem.run_bind, Sem.run_pure, Result.andThen_ok, hr]
  exact hK _ _ h
theorem run_loadVar_at {P : Program} (w : World) (a : Addr) (ty : TypeId) (cs : List Value) (d : TypeDesc) (hc : ∀ (j : Nat) (v : Value), cs[j]? = some v → w.cell? (a.add j) = some v)
  (hu : P.underlying ty = some d) (hd : d.isRow = true) (hi : (P.info? ty).map (·.size) = some cs.length) :
  (loadVar ty a).run P w = .ok (.agg cs.toArray) w := by
 have hl : (loadCells a cs.length).run P w = .ok cs.toArray w := run_loadCells_list (P := P) w a cs hc
 cases hq : P.info? ty with
 | none => simp [hq] at hi
 | some i =>
  have hs : i.size = cs.length := by simpa [hq] using hi
  have hagg : (isAgg ty).run P w = .ok true w := by
   unfold isAgg
   rw [Sem.run_bind, run_underlying hu w]
   cases d <;> simp_all
  simp [loadVar, Sem.run_bind, hagg, sizeOf, typeInfo, hq, hs, hl]
theorem infoAd : (Tryd.prog.info? 56).map (·.size) = some 20 := by kernel_rfl
theorem wpQuiet_load {P : Program} {ops : Array Oper} {C : World → Prop} {rest : List Oper} {o : Oper} {a : Act} {Q : Act → Prop} (hw : Region.wanted o (yielded ops a.tmps) = true) (ty : TypeId) (x : Operand) (ho : o.op = .load ty x) (p : Addr) (hx : a.eval x = .pointer (some p)) (v : Value) (hr : ∀ w, C w → (loadVar ty p).run P w = .ok v w)
  (h : wpQuiet P ops C Q rest (a.put o.dst v)) : wpQuiet P ops C Q (o :: rest) a :=
 BigFrame.wpQuiet_want hw fun K hK => ⟨v, fun w hc => by
  unfold Oper.quietAt execOp
  simp only [ho, hx, Instr.loadAt, Instr.sureAddr, Sem.run_bind, Sem.run_pure, Result.andThen_ok, hr w hc]
  exact ⟨rfl, rfl⟩, hK _ h⟩
structure Ky where
 at_ : Nat
 slot : Bool
 key : Nat
 deriving DecidableEq, Inhabited
def kyL (k : Ky) : List Value := adL k.at_ ++ [.bool k.slot, .int .u64 (lim k.key 0), .int .u64 (lim k.key 1), .int .u64 (lim k.key 2), .int .u64 (lim k.key 3)]
def kyC (k : Ky) : Array Value := (kyL k).toArray
structure KyOk (k : Ky) : Prop where
 at_ : k.at_ < 256 ^ 20
 key : W256 k.key
theorem kyL_len (k : Ky) : (kyL k).length = 25 := by simp [kyL, adL_len]
theorem kyC_size (k : Ky) : (kyC k).size = 25 := by simp [kyC, kyL_len]
theorem kyL_more (k : Ky) (j : Nat) : (kyL k)[20 + j]? = [.bool k.slot, .int .u64 (lim k.key 0), .int .u64 (lim k.key 1), .int .u64 (lim k.key 2), .int .u64 (lim k.key 3)][j]? := by
 unfold kyL
 rw [List.getElem?_append_right (by rw [adL_len]; omega), adL_len, Nat.add_sub_cancel_left]
theorem kyC_more (k : Ky) (j : Nat) : (kyC k)[20 + j]? = [.bool k.slot, .int .u64 (lim k.key 0), .int .u64 (lim k.key 1), .int .u64 (lim k.key 2), .int .u64 (lim k.key 3)][j]? := by
 rw [← kyL_more k j]
 simp [kyC]
theorem kyL_at (k : Ky) (j : Nat) (h : j < 20) : (kyL k)[j]? = some (.int .u8 ((adB k.at_ j : Nat) : Int)) := by
 unfold kyL
 rw [List.getElem?_append_left (by rw [adL_len]; exact h)]
 simp [adL, h]
theorem kyL_one (k : Ky) : ∀ u ∈ kyL k, u.oneCell' = true := fun u hu => by
 unfold kyL adL at hu
 rcases List.mem_append.1 hu with h | h
 ·obtain ⟨i, _, rfl⟩ := List.mem_map.1 h
  rfl
 ·simp only [List.mem_cons, List.not_mem_nil, or_false] at h
  rcases h with rfl | rfl | rfl | rfl | rfl
  all_goals rfl
theorem infoKy : (Tryd.prog.info? 58).map (·.size) = some 25 := by kernel_rfl
theorem Has.ky {W : World} {B : Nat} {k : Ky} (h : Has W B 58 (kyC k)) : W.cell? ⟨B, 20, none⟩ = some (.bool k.slot) ∧ W.cell? ⟨B, 21, none⟩ = some (.int .u64 (lim k.key 0)) ∧ W.cell? ⟨B, 22, none⟩ = some (.int .u64 (lim k.key 1)) ∧ W.cell? ⟨B, 23, none⟩ = some (.int .u64 (lim k.key 2)) ∧ W.cell? ⟨B, 24, none⟩ = some (.int .u64 (lim k.key 3)) :=
 ⟨h.cell 20 _ (kyC_more k 0), h.cell 21 _ (kyC_more k 1), h.cell 22 _ (kyC_more k 2), h.cell 23 _ (kyC_more k 3), h.cell 24 _ (kyC_more k 4)⟩
theorem Has.kyAd {W : World} {B : Nat} {t : TypeId} {k : Ky} (h : Has W B t (kyC k)) : AdAt W ⟨B, 0, none⟩ k.at_ := fun j hj => by
 rw [add_lit, Nat.zero_add]
 exact h.cell j _ (by simp [kyC, kyL_at k j hj])
theorem Has.kyLoad {W : World} {B : Nat} {k : Ky} (h : Has W B 58 (kyC k)) : (loadVar 58 ⟨B, 0, none⟩).run Tryd.prog W = .ok (.agg (kyC k)) W :=
 run_loadVar_row _ _ _ _ _ (0, 0) _ h Tryd.underlying58 rfl (by rw [kyC_size]; exact infoKy)
theorem eqv_k (a b : Nat) (ha : W256 a) (hb : W256 b) : (lim a 0 == lim b 0 && lim a 1 == lim b 1 && lim a 2 == lim b 2 && lim a 3 == lim b 3) = decide (a = b) := by
 by_cases h : a = b
 ·subst h; simp
 ·rw [decide_eq_false h]
  refine Bool.eq_false_iff.2 fun e => h ?_
  simp only [Bool.and_eq_true, beq_iff_eq] at e
  exact lim_ext ha hb fun k hk => by
   obtain rfl | rfl | rfl | rfl : k = 0 ∨ k = 1 ∨ k = 2 ∨ k = 3 := by omega
   ·exact e.1.1.1
   ·exact e.1.1.2
   ·exact e.1.2
   ·exact e.2
def kcmp (a b : Ky) : Int := if acmp a.at_ b.at_ = 0 then (if a.slot = b.slot then wcmp a.key b.key else if a.slot = true then 1 else -1) else acmp a.at_ b.at_
end
section
open Go Go.RowKit
def RawAt (W : World) (v : Value) (zs : List (Int × Int)) : Prop :=
 ∃ a cap, v = .slice a zs.length cap ∧ zs.length ≤ cap ∧ cap ≤ 9223372036854775807 ∧ ∀ (i : Nat) (p : Int × Int), zs[i]? = some p → I64 p.1 ∧ I64 p.2 ∧ ∃ b, a = some b ∧ W.cell? (b.add (i * 2)) = some (.int .i64 p.1) ∧ W.cell? ((b.add (i * 2)).add 1) = some (.int .i64 p.2)
theorem Addr.add_add (b : Addr) (i j : Nat) : (b.add i).add j = b.add (i + j) := by
 unfold Addr.add
 by_cases hi : i = 0
 ·subst hi; simp
 ·by_cases hj : j = 0
  ·subst hj; simp [hi]
  ·simp only [hi, hj, if_false]
   rw [if_neg (by omega)]
   simp []
theorem RawAt.keep {W X : World} {v : Value} {zs : List (Int × Int)} (h : RawAt W v zs) (hk : ∀ (a : Addr) (u : Value), W.cell? a = some u → X.cell? a = some u) : RawAt X v zs := by
 obtain ⟨a, cap, h1, h2, h3, h4⟩ := h
 refine ⟨a, cap, h1, h2, h3, fun i p hp => ?_⟩
 obtain ⟨g1, g2, b, e, c0, c1⟩ := h4 i p hp
 exact ⟨g1, g2, b, e, hk _ _ c0, hk _ _ c1⟩
theorem cell_lt {W : World} {a : Addr} {u : Value} (h : W.cell? a = some u) : a.block < W.heap.size := by
 unfold World.cell? at h
 rcases Nat.lt_or_ge a.block W.heap.size with h' | h'
 ·exact h'
 ·rw [Array.getElem?_eq_none h'] at h
  cases h
theorem cell_below {W X : World} (hb : Below W.heap.size W X) (a : Addr) (u : Value) (h : W.cell? a = some u) : X.cell? a = some u := by
 exact (World.cell?_of_block (hb.block _ (cell_lt h))).trans h
theorem RawAt.later {W X : World} {v : Value} {zs : List (Int × Int)} (h : RawAt W v zs) (hb : Below W.heap.size W X) : RawAt X v zs := h.keep (cell_below hb)
end
section
open Go Go.RowKit
attribute [local go_sem] Oper.semAt_some Grows wide_fn
theorem Ext.atK {W : World} {z : Ext W} {P : Program} {f : FuncId} {args : Array Value} {v : Value} (h : Calls P f args z.w fun e w' => e = .returned v ∧ Below z.w.heap.size z.w w') : Calls P f args z.w fun e w' => e = .returned v ∧ ∃ x : Ext W, w' = x.w :=
 h.mono fun _ w' ⟨h1, h2⟩ => ⟨h1, ⟨w', z.below.trans (h2.mono z.below.size)⟩, rfl⟩
def KyIn (W : World) (p : Addr) (x : Ky) : Prop := ∀ (j : Nat) (u : Value), (kyL x)[j]? = some u → W.cell? (p.add j) = some u
theorem KyIn.later {W X : World} {p : Addr} {x : Ky} (h : KyIn W p x) (hb : Below W.heap.size W X) : KyIn X p x := fun j u hj => cell_below hb _ _ (h j u hj)
theorem KyIn.load {W : World} {p : Addr} {x : Ky} (h : KyIn W p x) : (loadVar 58 p).run Tryd.prog W = .ok (.agg (kyC x)) W :=
 run_loadVar_at W p _ (kyL x) _ h Tryd.underlying58 rfl (by rw [kyL_len]; exact infoKy)
def KeysAt (W : World) (v : Value) (l : List Ky) : Prop :=
 ∃ a cap, v = .slice a l.length cap ∧ l.length ≤ cap ∧ cap ≤ 9223372036854775807 ∧ (∀ x ∈ l, KyOk x) ∧ ∀ (i : Nat) (x : Ky), l[i]? = some x → ∃ b, a = some b ∧ KyIn W (b.add (i * 25)) x
theorem KeysAt.keep {W X : World} {v : Value} {l : List Ky} (h : KeysAt W v l) (hk : ∀ (a : Addr) (u : Value), W.cell? a = some u → X.cell? a = some u) : KeysAt X v l := by
 obtain ⟨a, cap, h1, h2, h3, h4, h5⟩ := h
 refine ⟨a, cap, h1, h2, h3, h4, fun i x hx => ?_⟩
 obtain ⟨b, e, hc⟩ := h5 i x hx
 exact ⟨b, e, fun j u hj => hk _ _ (hc j u hj)⟩
theorem KeysAt.later {W X : World} {v : Value} {l : List Ky} (h : KeysAt W v l) (hb : Below W.heap.size W X) : KeysAt X v l := h.keep (cell_below hb)
theorem KeysAt.nil (W : World) : KeysAt W (.slice none 0 0) [] := ⟨none, 0, rfl, by simp, by omega, (fun x hx => by cases hx), fun i x hx => by simp at hx⟩
theorem KeysAt.shape {W : World} {v : Value} {l : List Ky} (h : KeysAt W v l) : ∃ a cap, v = .slice a l.length cap ∧ l.length ≤ cap ∧ cap ≤ 9223372036854775807 := by
 obtain ⟨a, cap, h1, h2, h3, _⟩ := h
 exact ⟨a, cap, h1, h2, h3⟩
theorem KeysAt.all {W : World} {v : Value} {l : List Ky} (h : KeysAt W v l) : ∀ x ∈ l, KyOk x := by
 obtain ⟨a, cap, h1, h2, h3, h4, _⟩ := h
 exact h4
theorem KeysAt.ok {W : World} {v : Value} {l : List Ky} (h : KeysAt W v l) {i : Nat} {x : Ky} (hx : l[i]? = some x) : KyOk x := h.all x (List.mem_of_getElem? hx)
theorem KeysAt.at {W : World} {a : Option Addr} {n cap : Nat} {l : List Ky} (h : KeysAt W (.slice a n cap) l) {i : Nat} {x : Ky} (hx : l[i]? = some x) : ∃ b, a = some b ∧ KyIn W (b.add (i * 25)) x := by
 obtain ⟨a', cap', h1, h2, h3, h4, h5⟩ := h
 injection h1 with e1 e2 e3
 subst e1
 exact h5 i x hx
theorem kcmp_zero {a b : Ky} : kcmp a b = 0 ↔ a = b := by
 unfold kcmp
 by_cases h : acmp a.at_ b.at_ = 0
 ·rw [if_pos h]
  have h1 := (acmp_zero _ _).1 h
  by_cases hs : a.slot = b.slot
  ·rw [if_pos hs]
   obtain ⟨a1, a2, a3⟩ := a
   obtain ⟨b1, b2, b3⟩ := b
   simp only at h1 hs ⊢
   subst h1 hs
   unfold wcmp
   constructor
   ·intro h
    split at h
    ·omega
    ·split at h
     ·omega
     ·rw [show a3 = b3 by omega]
   ·intro h
    injection h with _ _ h
    rw [if_neg (by omega), if_neg (by omega)]
  ·rw [if_neg hs]
   constructor
   ·intro h; split at h <;> omega
   ·intro h; subst h; exact absurd rfl hs
 ·rw [if_neg h]
  exact ⟨fun h' => absurd h' h, fun h' => by subst h'; exact absurd ((acmp_zero _ _).2 rfl) h⟩
def Kl (a b : Ky) : Prop := kcmp a b < 0
theorem acmp_lt {a b : Nat} : acmp a b < 0 ↔ a < b := by
 unfold acmp
 split
 ·exact ⟨fun _ => by omega, fun _ => by decide⟩
 ·split <;> exact ⟨fun h => by omega, fun h => by omega⟩
theorem wcmp_lt {a b : Nat} : wcmp a b < 0 ↔ a < b := by
 unfold wcmp
 repeat' split
 all_goals exact ⟨fun h => by omega, fun h => by omega⟩
theorem kl_iff {a b : Ky} : Kl a b ↔ a.at_ < b.at_ ∨ (a.at_ = b.at_ ∧ ((a.slot = false ∧ b.slot = true) ∨ (a.slot = b.slot ∧ a.key < b.key))) := by
 unfold Kl kcmp
 by_cases h : acmp a.at_ b.at_ = 0
 ·rw [if_pos h]
  have h1 := (acmp_zero _ _).1 h
  by_cases hs : a.slot = b.slot
  ·rw [if_pos hs, wcmp_lt]
   constructor
   ·intro h; exact .inr ⟨h1, .inr ⟨hs, h⟩⟩
   ·rintro (h | ⟨_, ⟨h, h'⟩ | ⟨_, h⟩⟩)
    ·omega
    ·rw [h, h'] at hs; cases hs
    ·exact h
  ·rw [if_neg hs]
   constructor
   ·intro h
    refine .inr ⟨h1, .inl ?_⟩
    cases ha : a.slot <;> cases hb : b.slot <;> simp_all
   ·rintro (h | ⟨_, ⟨h, h'⟩ | ⟨h, _⟩⟩)
    ·omega
    ·rw [h]; decide
    ·exact absurd h hs
 ·rw [if_neg h, acmp_lt]
  have h1 : ¬ a.at_ = b.at_ := fun e => h ((acmp_zero _ _).2 e)
  exact ⟨fun h => .inl h, fun h => by rcases h with h | h; exact h; exact absurd h.1 h1⟩
theorem Kl.trans {a b c : Ky} (h : Kl a b) (k : Kl b c) : Kl a c := by
 rw [kl_iff] at *
 rcases h with h | ⟨h, h' | h'⟩ <;> rcases k with k | ⟨k, k' | k'⟩
 ·exact .inl (by omega)
 ·exact .inl (by omega)
 ·exact .inl (by omega)
 ·exact .inl (by omega)
 ·rw [h'.2] at k'; cases k'.1
 ·exact .inr ⟨by omega, .inl ⟨h'.1, by rw [← k'.1]; exact h'.2⟩⟩
 ·exact .inl (by omega)
 ·exact .inr ⟨by omega, .inl ⟨by rw [h'.1]; exact k'.1, k'.2⟩⟩
 ·exact .inr ⟨by omega, .inr ⟨h'.1.trans k'.1, by omega⟩⟩
theorem kcmp_tri (a b : Ky) : (Kl a b ∧ kcmp a b = -1) ∨ (a = b ∧ kcmp a b = 0) ∨ (Kl b a ∧ kcmp a b = 1) := by
 have key : kcmp a b = -1 ∨ kcmp a b = 0 ∨ kcmp a b = 1 := by
  unfold kcmp acmp wcmp
  repeat' split
  all_goals omega
 rcases key with h | h | h
 ·exact .inl ⟨by unfold Kl; omega, h⟩
 ·exact .inr (.inl ⟨kcmp_zero.1 h, h⟩)
 ·refine .inr (.inr ⟨?_, h⟩)
  have hn : ¬ Kl a b := fun k => by unfold Kl at k; omega
  have he : ¬ a = b := fun e => by rw [kcmp_zero.2 e] at h; omega
  rw [kl_iff] at hn ⊢
  rcases Nat.lt_trichotomy a.at_ b.at_ with h1 | h1 | h1
  ·exact absurd (.inl h1) hn
  ·refine .inr ⟨h1.symm, ?_⟩
   cases ha : a.slot <;> cases hb : b.slot
   ·rcases Nat.lt_trichotomy a.key b.key with h2 | h2 | h2
    ·exact absurd (.inr ⟨h1, .inr ⟨by rw [ha, hb], h2⟩⟩) hn
    ·exact absurd (by obtain ⟨a1, a2, a3⟩ := a; obtain ⟨b1, b2, b3⟩ := b; simp only at h1 ha hb h2; subst h1 h2 ha hb; rfl) he
    ·exact .inr ⟨rfl, h2⟩
   ·exact absurd (.inr ⟨h1, .inl ⟨ha, hb⟩⟩) hn
   ·exact .inl ⟨rfl, rfl⟩
   ·rcases Nat.lt_trichotomy a.key b.key with h2 | h2 | h2
    ·exact absurd (.inr ⟨h1, .inr ⟨by rw [ha, hb], h2⟩⟩) hn
    ·exact absurd (by obtain ⟨a1, a2, a3⟩ := a; obtain ⟨b1, b2, b3⟩ := b; simp only at h1 ha hb h2; subst h1 h2 ha hb; rfl) he
    ·exact .inr ⟨rfl, h2⟩
  ·exact .inl h1
def Kup (l : List Ky) : Prop := l.Pairwise Kl
def strayK (k : Ky) : Bool := !k.slot && decide (k.key ≠ 0)
attribute [local go_sem] eq4
end
end Go.Proofs.YtlihnlkcgiopoaaDoor
