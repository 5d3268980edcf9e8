/- Part. -/
import Derived.Laws.Slices
import Derived.Laws.Strings2
import Derived.Test.YthcmfadofogfaaaDoorG05
import Derived.Laws.IdiomRangeMap
set_option maxRecDepth 100000
set_option maxHeartbeats 16000000
namespace Go.Proofs.YthcmfadofogfaaaDoor
section
open Go Go.RowKit Go.Maps
theorem wpList_cutS (w : World) {ops : Array Oper} {rest : List Oper} {o : Oper} {a : Act} {Q : Exit → Act → World → Prop} (hg : o.guard = none) (x l h : Operand) (hop : o.op = .slice tSt x (some l) (some h) none) (s : ByteArray) (hx : a.eval x = .string s) (N : Nat) (hs : s.size = N)
  (i j : Int) (hl : a.eval l = .int .i64 i) (hh : a.eval h = .int .i64 j) (h0 : 0 ≤ i) (h1 : i ≤ j) (h2 : j ≤ (N : Int)) (hK : wpList Tryd.prog ops Q rest (a.put o.dst (.string (s.extract i.toNat j.toNat))) w) : wpList Tryd.prog ops Q (o :: rest) a w := by
 refine wpList_plain hg fun K' hK' => ?_
 have hrun : (Instr.sliceAt tSt (.string s) (some (.int .i64 i)) (some (.int .i64 j)) none).run Tryd.prog w = .ok (.string (s.extract i.toNat j.toNat)) w := by
  rw [run_sliceAt_string _ _ _ _ _ _ Tryd.underlying9, run_slice_string _ _ _ _ _ _ _ Tryd.underlying9 h0 h1 (by omega)]
 unfold Oper.wp
 simp [execOp, hop, hx, hl, hh, hrun, Result.andThen]
 exact hK' _ _ hK
def decL (n : Nat) : List UInt8 := if n < 10 then [UInt8.ofNat (48 + n)] else [UInt8.ofNat (48 + n / 10), UInt8.ofNat (48 + n % 10)]
theorem small_any (n : Nat) (hn : n < 40) (w : World) : Calls Tryd.prog 93 #[.int .i64 (n : Int)] w fun e w' => e = .returned (.string ⟨(decL n).toArray⟩) ∧ w' = w := by
 have h0 : (0 : Int) ≤ (n : Int) := by omega
 by_cases h : (n : Int) < 10
 ·have h1 : n < 10 := by omega
  go_enter Tryd.func93, Tryd.ntmps93
  go_wp2_with (refine wpList_cutS _ rfl _ _ _ rfl _ rfl 36 (by kernel_rfl) _ _ rfl rfl h0 (by omega) (by omega) ?_)
  go_ret
  refine ⟨?_, rfl⟩
  refine congrArg Ending.returned (congrArg Value.string ?_)
  exact (by decide +kernel : ∀ n : Nat, n < 40 → n < 10 → (ByteArray.mk #[48, 49, 50, 51, 52, 53, 54, 55, 56, 57, 97, 98, 99, 100, 101, 102, 103, 104, 105, 106, 107, 108, 109, 110, 111, 112, 113, 114, 115, 116, 117, 118, 119, 120, 121, 122]).extract n (n + 1) = ⟨(decL n).toArray⟩) n hn h1
 ·have h1 : ¬ n < 10 := by omega
  go_enter Tryd.func93, Tryd.ntmps93
  go_wp2_with (refine wpList_cutS _ rfl _ _ _ rfl _ rfl 200 (by kernel_rfl) _ _ rfl rfl (by omega) (by omega) (by omega) ?_)
  go_ret
  refine ⟨?_, rfl⟩
  refine congrArg Ending.returned (congrArg Value.string ?_)
  clear h h0
  revert n
  decide +kernel
theorem itoa_any (n : Nat) (hn : n < 40) (w : World) : Calls Tryd.prog 69 #[.int .i64 (n : Int)] w fun e w' => e = .returned (.string ⟨(decL n).toArray⟩) ∧ w' = w := by
 have h0 : (0 : Int) ≤ (n : Int) := by omega
 have h1 : (n : Int) < 100 := by omega
 have hs := hid (small_any n hn)
 go_enter Tryd.func69, Tryd.ntmps69
 go_wp2_with (first | (go_at_call 93; refine (hs.out _).mono ?_; rintro e w' ⟨rfl, rfl⟩) | go_in)
 go_ret
 exact ⟨rfl, rfl⟩
theorem results_inf {fn : Func} {t : Tmp} {tmps : Array Value} {W : World} {B : Nat} {s a b c : Value} (h : fn.results = #[ResultVar.cell t tI]) (ht : tmps.getD t undef = .pointer (some ⟨B, 0, none⟩)) (hA : Has W B tI #[s, a, b, c]) :
  (results fn tmps).run Tryd.prog W = .ok (.agg #[s, a, b, c]) W := by
 have e0 := hA.cell 0 _ rfl
 have e1 := hA.cell 1 _ rfl
 have e2 := hA.cell 2 _ rfl
 have e3 := hA.cell 3 _ rfl
 simp at ht
 simp [results, h, ht, go_sem, e0, e1, e2, e3]
theorem results_infB {fn : Func} {t u : Tmp} {tmps : Array Value} {W : World} {B : Nat} {s a b c v : Value} {T : TypeId} (hT : T = tI ∨ T = 25) (h : fn.results = #[ResultVar.cell t T, ResultVar.tmp u]) (ht : tmps.getD t undef = .pointer (some ⟨B, 0, none⟩)) (hu : tmps.getD u undef = v) (hA : Has W B T #[s, a, b, c]) :
  (results fn tmps).run Tryd.prog W = .ok (.tuple #[.agg #[s, a, b, c], v]) W := by
 have e0 := hA.cell 0 _ rfl
 have e1 := hA.cell 1 _ rfl
 have e2 := hA.cell 2 _ rfl
 have e3 := hA.cell 3 _ rfl
 simp at ht hu
 rcases hT with rfl | rfl <;> simp [results, h, ht, hu, go_sem, e0, e1, e2, e3]
def RuleOk (g : Nat) (r : Nat → Nat × Nat × Nat) : Prop := ∀ n : Nat, n < 40 → ∀ w, Calls Tryd.prog g #[.int .i64 (n : Int)] w fun e w' => e = .returned (infV ([], r n)) ∧ Below w.heap.size w w'
theorem build_push (w : World) : (Instr.build tI #[(2, .int .i64 1), (3, .int .i64 3)]).run Tryd.prog w = .ok (.agg #[.string ⟨#[]⟩, .int .i64 0, .int .i64 1, .int .i64 3]) w := by kernel_rfl
theorem build_dup (a b : Int) (w : World) : (Instr.build tI #[(1, .int .i64 a), (2, .int .i64 b), (3, .int .i64 3)]).run Tryd.prog w = .ok (.agg #[.string ⟨#[]⟩, .int .i64 a, .int .i64 b, .int .i64 3]) w := by kernel_rfl
theorem build_log (a b : Int) (w : World) : (Instr.build tI #[(1, .int .i64 a), (3, .int .i64 b)]).run Tryd.prog w = .ok (.agg #[.string ⟨#[]⟩, .int .i64 a, .int .i64 0, .int .i64 b]) w := by kernel_rfl
theorem rule_pushing : RuleOk 53 (fun _ => (0, 1, 3)) := by
 intro n hn w
 have hb := build_push
 unfold tI at hb
 go_enter Tryd.func53, Tryd.ntmps53
 go_wp2_with go_in
 exact bodyPost_ret (results_inf rfl rfl (Has.new _ _ _)) rfl ⟨rfl, (Below.refl _ _).alloc (Nat.le_refl _) _⟩
theorem rule_row1 : RuleOk 54 (fun n => (n, n + 1, 3)) := by
 intro n hn w
 have hb := build_dup
 unfold tI at hb
 go_enter Tryd.func54, Tryd.ntmps54
 go_wp2_with go_in
 exact bodyPost_ret (results_inf rfl rfl (Has.new _ _ _)) rfl ⟨rfl, (Below.refl _ _).alloc (Nat.le_refl _) _⟩
theorem rule_row2 : RuleOk 55 (fun n => (n + 1, n + 1, 3)) := by
 intro n hn w
 have hb := build_dup
 unfold tI at hb
 go_enter Tryd.func55, Tryd.ntmps55
 go_wp2_with go_in
 exact bodyPost_ret (results_inf rfl rfl (Has.new _ _ _)) rfl ⟨rfl, (Below.refl _ _).alloc (Nat.le_refl _) _⟩
theorem rule_row3 : RuleOk 56 (fun n => (n + 2, 0, 375 * (n + 1))) := by
 intro n hn w
 have hb := build_log
 unfold tI at hb
 go_enter Tryd.func56, Tryd.ntmps56
 go_wp2_with go_in
 exact bodyPost_ret (results_inf rfl rfl (Has.new _ _ _)) rfl ⟨rfl, (Below.refl _ _).alloc (Nat.le_refl _) _⟩
end
section
open Go Go.RowKit Go.Maps
attribute [local go_sem] Oper.semAt_some Grows wide_fn
def MapV (w : World) (v : Value) (n : Nat) (f : Nat → Option Inf) : Prop := (v = .map none ∧ ∀ op, op < 256 → f op = none) ∨ ∃ B, v = .map (some B) ∧ MapB w B n f
theorem MapV.later {w w' : World} {v : Value} {n : Nat} {f : Nat → Option Inf} (h : MapV w v n f) (hb : Below w.heap.size w w') : MapV w' v n f := by
 rcases h with h | ⟨B, e, h⟩
 ·exact .inl h
 ·exact .inr ⟨B, e, h.below hb h.lt⟩
theorem wpList_lookV (w : World) {ops : Array Oper} {rest : List Oper} {o : Oper} {a : Act} {Q : Exit → Act → World → Prop} (hg : o.guard = none) (m k : Operand) (hop : o.op = Op.lookup tMB m k true) (v : Value) (n : Nat) (f : Nat → Option Inf) (hm : a.eval m = v) (hown : MapV w v n f)
  (op : Nat) (hk : a.eval k = .int .u8 (op : Int)) (hop' : op < 256) (V : Value) (hV : lookV f op = V) (hK : wpList Tryd.prog ops Q rest (a.put o.dst V) w) : wpList Tryd.prog ops Q (o :: rest) a w := by
 subst hV
 rcases hown with ⟨rfl, hf⟩ | ⟨B, rfl, h⟩
 ·refine wpList_lookB_nil w hg m k hop hm op hk hop' ?_
  have : lookV (fun _ => none) op = lookV f op := by unfold lookV; rw [hf op hop']
  rw [this]
  exact hK
 ·exact wpList_lookB w hg m k hop B n f hm h op hk hop' hK
theorem look_any (W : World) (v : Value) (n : Nat) (f : Nat → Option Inf) (h : MapV W v n f) (op : Nat) (ho : op < 256) :
  Calls Tryd.prog 25 #[v, .int .u8 (op : Int)] W fun e w' => e = .returned (lookV f op) ∧ Below W.heap.size W w' := by
 obtain ⟨y, hy⟩ : ∃ y, (f op).getD noInf = y := ⟨_, rfl⟩
 obtain ⟨b, hb⟩ : ∃ b, (f op).isSome = b := ⟨_, rfl⟩
 obtain ⟨nm, po, pu, ga⟩ := y
 obtain ⟨s, hs⟩ : ∃ s : ByteArray, (⟨nm.toArray⟩ : ByteArray) = s := ⟨_, rfl⟩
 have e : lookV f op = .tuple #[.agg #[.string s, .int .i64 (po : Int), .int .i64 (pu : Int), .int .i64 (ga : Int)], .bool b] := by unfold lookV infV; rw [hy, hb, ← hs]
 have HE := hid e
 have HM := hid h
 have HO := hid ho
 clear e hs hy hb h ho
 obtain ⟨W1, hW1⟩ : ∃ W1, W.alloc (.cells #[.string ⟨#[]⟩, .int .i64 0, .int .i64 0, .int .i64 0] tI) = W1 := ⟨_, rfl⟩
 have q1 : Below W.heap.size W W1 := hW1 ▸ (Below.refl _ W).alloc (Nat.le_refl _) _
 have n1 : Has W1 W.heap.size tI #[.string ⟨#[]⟩, .int .i64 0, .int .i64 0, .int .i64 0] := hW1 ▸ Has.new _ _ _
 obtain ⟨W2, hW2⟩ : ∃ W2, W1.alloc (.cells #[.string s, .int .i64 (po : Int), .int .i64 (pu : Int), .int .i64 (ga : Int)] tI) = W2 := ⟨_, rfl⟩
 have q2 : Below W1.heap.size W1 W2 := hW2 ▸ (Below.refl _ W1).alloc (Nat.le_refl _) _
 have m2 : Has W2 W1.heap.size tI #[.string s, .int .i64 (po : Int), .int .i64 (pu : Int), .int .i64 (ga : Int)] := hW2 ▸ Has.new _ _ _
 have n2 := n1.later q2
 have HM1 := hid (HM.out.later q1)
 have HQ2 := hid (q1.trans (q2.mono q1.size))
 have HN2 := hid n2
 have ac0 := n2.cell 0 _ rfl
 have ac1 := n2.cell 1 _ rfl
 have ac2 := n2.cell 2 _ rfl
 have ac3 := n2.cell 3 _ rfl
 have af0 := n2.frozen 0
 have af1 := n2.frozen 1
 have af2 := n2.frozen 2
 have af3 := n2.frozen 3
 have bc0 := m2.cell 0 _ rfl
 have bc1 := m2.cell 1 _ rfl
 have bc2 := m2.cell 2 _ rfl
 have bc3 := m2.cell 3 _ rfl
 unfold tI at hW1 hW2
 clear q1 n1 q2 m2 n2 HM
 go_enter Tryd.func25, Tryd.ntmps25
 go_wp2_with (refine wpList_lookV _ rfl _ _ rfl _ _ _ rfl HM1.out _ rfl HO.out _ HE.out ?_)
 rw [HE.out]
 exact bodyPost_ret (results_infB (.inl rfl) rfl rfl rfl ((((HN2.out.set 0 _).set 1 _).set 2 _).set 3 _)) rfl ⟨rfl, (((HQ2.out.setCell (Nat.le_refl _) _).setCell (Nat.le_refl _) _).setCell (Nat.le_refl _) _).setCell (Nat.le_refl _) _⟩
def numF (op : Nat) (nm : List UInt8) (n : Nat) (r : Nat → Nat × Nat × Nat) (k : Nat) : Nat → Option Inf := fun o => if op ≤ o ∧ o < op + k then some (nm ++ decL (n + (o - op)), r (n + (o - op))) else none
theorem numF_zero (op : Nat) (nm : List UInt8) (n : Nat) (r : Nat → Nat × Nat × Nat) : numF op nm n r 0 = fun _ => none := by funext o; unfold numF; rw [if_neg (by omega)]
theorem numF_succ (op : Nat) (nm : List UInt8) (n : Nat) (r : Nat → Nat × Nat × Nat) (k : Nat) : putMB (numF op nm n r k) (op + k) (nm ++ decL (n + k), r (n + k)) = numF op nm n r (k + 1) := by
 funext o
 unfold putMB numF
 by_cases h : o = op + k
 ·subst h
  rw [if_pos rfl, if_pos (by omega), show op + k - op = k by omega]
 ·rw [if_neg h]
  by_cases h2 : op ≤ o ∧ o < op + k
  ·rw [if_pos h2, if_pos (by omega)]
  ·rw [if_neg h2, if_neg (by omega)]
theorem catB (a b : List UInt8) : (ByteArray.mk a.toArray) ++ (ByteArray.mk b.toArray) = ⟨(a ++ b).toArray⟩ := by
 apply ByteArray.ext
 simp
theorem run_makeMap_hint {P : Program} (t k e : TypeId) (kd : IntKind) (n : Int) (ht : P.underlying t = some (.map k e)) (w : World) :
  (Instr.makeMap t (some (.int kd n))).run P w = .ok (.map (some w.heap.size)) (w.alloc (.map #[] 0)) := by
 simp [Instr.makeMap, run_underlying ht]; rfl
theorem numbered_pushing (r : Nat → Nat × Nat × Nat) (hr : RuleOk 53 r) (op : Nat) (nm : List UInt8) (n N : Nat) (hop : op + N < 256) (hnm : nm.length ≤ 5) (hN0 : 0 < N) (hnN : n + N ≤ 40) (W : World) :
  Calls Tryd.prog 52 #[.int .u8 (op : Int), .string ⟨nm.toArray⟩, .int .i64 (n : Int), .int .i64 ((n : Int) + (N : Int) - 1), .func (.func 53) #[] #[]] W (NewB W (numF op nm n r N)) := by
 have HR := hid hr
 have hmm := fun (x : Int) => run_makeMap_hint (P := Tryd.prog) tMB tB tI .i64 x Tryd.underlying52
 unfold tMB at hmm
 have HH := hid (And.intro hop (And.intro hnm (And.intro hN0 hnN)))
 obtain ⟨lst, hlst⟩ : ∃ lst : Int, (n : Int) + (N : Int) - 1 = lst := ⟨_, rfl⟩
 rw [hlst]
 have HL := hid hlst
 obtain ⟨s, hs⟩ : ∃ s : ByteArray, (⟨nm.toArray⟩ : ByteArray) = s := ⟨_, rfl⟩
 rw [hs]
 have HS := hid hs
 have l0 : (0 : Int) ≤ lst := by omega
 have l1 : lst < 40 := by omega
 have n0 : (0 : Int) ≤ (n : Int) := by omega
 have n1 : (n : Int) < 40 := by omega
 clear hlst hs hr hop hnm hN0 hnN
 obtain ⟨W1, hW1⟩ : ∃ W1, W.alloc (.map #[] 0) = W1 := ⟨_, rfl⟩
 have hm1 := hid (hW1 ▸ MapB.made W : MapB W1 W.heap.size 0 fun _ => none)
 have hq1 := hid (hW1 ▸ (Below.refl _ W).alloc (Nat.le_refl _) _ : Below W.heap.size W W1)
 go_enter Tryd.func52, Tryd.ntmps52
 go_wp2_with fail
 go_loopw [0, 12] (fun o i wr => ∃ k : Nat, k ≤ N ∧ o = .int .u8 ((op : Int) + (k : Int)) ∧ i = .int .i64 ((n : Int) + (k : Int)) ∧ MapB wr W.heap.size k (numF op nm n r k) ∧ Below W.heap.size W wr ∧ W.heap.size < wr.heap.size) (fun _ i _ => 40 - (intOf i).toNat)
 case atStart => exact ⟨0, Nat.zero_le _, by simp, by simp, by rw [numF_zero]; exact hm1.out, hq1.out, hm1.out.lt⟩
 case round =>
  obtain ⟨k, hk, rfl, rfl, hm, hq, hlt⟩ := hrel
  have HM := hid hm
  have HQ := hid (And.intro hq hlt)
  clear hm hq hlt hm1 hq1 hW1
  by_cases hkN : k < N
  ·have c1 : (n : Int) + (k : Int) ≤ lst := by have := HL.out; omega
   have c2 : (0 : Int) ≤ (k : Int) := by omega
   have c3 : (op : Int) + (k : Int) + 1 ≤ 255 := by have := HH.out.1; omega
   have c4 : (0 : Int) ≤ (op : Int) := by omega
   obtain ⟨po, pu, ga, hrp⟩ : ∃ po pu ga, r (n + k) = (po, pu, ga) := ⟨_, _, _, rfl⟩
   have HC := hid (HR.out (n + k) (by have := HH.out.2.2.2; omega) wr)
   have HI := hid (itoa_any (n + k) (by have := HH.out.2.2.2; omega))
   rw [hrp] at HC
   unfold infV at HC
   simp only [Int.natCast_add] at HC HI
   have HP := hid hrp
   have hsz : ¬ 9223372036854775807 < s.size + (decL (n + k)).length := by
    have e1 : s.size = nm.length := by rw [← HS.out]; simp [ByteArray.size]
    have e2 : (decL (n + k)).length ≤ 2 := by unfold decL; split <;> simp
    have := HH.out.2.1
    omega
   have HK := hid hkN
   clear hkN hk hrp
   go_wp2_with (go_at_call 53; refine HC.out.mono ?_; rintro _ w1 ⟨rfl, q1⟩)
   obtain ⟨W2, hW2⟩ : ∃ W2, w1.alloc (.cells #[.string ⟨#[]⟩, .int .i64 (po : Int), .int .i64 (pu : Int), .int .i64 (ga : Int)] tI) = W2 := ⟨_, rfl⟩
   have q2 : Below w1.heap.size w1 W2 := hW2 ▸ (Below.refl _ w1).alloc (Nat.le_refl _) _
   have m2 : Has W2 w1.heap.size tI #[.string ⟨#[]⟩, .int .i64 (po : Int), .int .i64 (pu : Int), .int .i64 (ga : Int)] := hW2 ▸ Has.new _ _ _
   have q12 := q1.trans (q2.mono q1.size)
   have hm2 := HM.out.below q12 HQ.out.2
   have Q2 := hid (HQ.out.1.trans (q12.mono HQ.out.1.size))
   have HL1 := hid (show W.heap.size < w1.heap.size from Nat.lt_of_lt_of_le HQ.out.2 q1.size)
   have m3 := m2.set 0 (.string (s ++ ⟨(decL (n + k)).toArray⟩))
   have M2 := hid (show MapB (W2.setCell ⟨w1.heap.size, 0, none⟩ (.string (s ++ ⟨(decL (n + k)).toArray⟩))) W.heap.size k (numF op nm n r k) from hm2.below (b := w1.heap.size) ((Below.refl _ W2).setCell (p := ⟨w1.heap.size, 0, none⟩) (Nat.le_refl _) _) HL1.out)
   have Q3 := hid (Q2.out.setCell (p := ⟨w1.heap.size, 0, none⟩) (Nat.le_of_lt HL1.out) (.string (s ++ ⟨(decL (n + k)).toArray⟩)))
   have L3 := hid (show W.heap.size < (W2.setCell ⟨w1.heap.size, 0, none⟩ (.string (s ++ ⟨(decL (n + k)).toArray⟩))).heap.size from M2.out.lt)
   unfold tI at hW2
   rw [hW2]
   have a0 := m2.cell 0 _ rfl
   have af := m2.frozen 0
   have bc0 := m3.cell 0 _ rfl
   have bc1 := m3.cell 1 _ rfl
   have bc2 := m3.cell 2 _ rfl
   have bc3 := m3.cell 3 _ rfl
   clear q1 q2 m2 m3 q12 hm2 hW2
   have HX := hid (show Value.agg #[.string (s ++ ⟨(decL (n + k)).toArray⟩), .int .i64 (po : Int), .int .i64 (pu : Int), .int .i64 (ga : Int)] = infV (nm ++ decL (n + k), r (n + k)) by rw [HP.out, ← HS.out]; unfold infV; rw [catB])
   refine (HI.out _).mono ?_
   rintro _ w3 ⟨rfl, rfl⟩
   go_wp2_with (refine wpList_putMB _ rfl _ _ _ (.inl rfl) _ _ _ rfl M2.out (by have := HH.out.2.2.2; have := HK.out; omega) (op + k) (nm ++ decL (n + k), r (n + k)) (by simp only [Int.natCast_add]; rfl) (by have := HH.out.1; have := HK.out; omega) (HX.out) ?_; intro w4 h4 g4)
   case roundEnd =>
    have hg := HQ.out
    rw [numF_succ] at h4
    have hb4 := Q3.out.grown g4 (Nat.le_of_lt L3.out) (fun j e => by cases e; exact Nat.le_refl _)
    refine ⟨⟨k + 1, by have := HK.out; omega, congrArg (Value.int .u8) (by simp; omega), congrArg (Value.int .i64) (by simp; omega), h4, hb4, Nat.lt_of_lt_of_le L3.out g4.size⟩, ?_⟩
    simp only [intOf]
    omega
  ·obtain rfl : k = N := by omega
   have c1 : ¬ ((n : Int) + (k : Int) ≤ lst) := by have := HL.out; omega
   have c2 : (0 : Int) ≤ (k : Int) := by omega
   clear hkN hk
   go_wp2_with fail
   go_ret
   exact ⟨_, k, rfl, by have := HH.out.2.2.2; omega, HM.out, Nat.le_refl _, HQ.out.1⟩
theorem numbered_row1 (r : Nat → Nat × Nat × Nat) (hr : RuleOk 54 r) (op : Nat) (nm : List UInt8) (n N : Nat) (hop : op + N < 256) (hnm : nm.length ≤ 5) (hN0 : 0 < N) (hnN : n + N ≤ 40) (W : World) :
  Calls Tryd.prog 52 #[.int .u8 (op : Int), .string ⟨nm.toArray⟩, .int .i64 (n : Int), .int .i64 ((n : Int) + (N : Int) - 1), .func (.func 54) #[] #[]] W (NewB W (numF op nm n r N)) := by
 have HR := hid hr
 have hmm := fun (x : Int) => run_makeMap_hint (P := Tryd.prog) tMB tB tI .i64 x Tryd.underlying52
 unfold tMB at hmm
 have HH := hid (And.intro hop (And.intro hnm (And.intro hN0 hnN)))
 obtain ⟨lst, hlst⟩ : ∃ lst : Int, (n : Int) + (N : Int) - 1 = lst := ⟨_, rfl⟩
 rw [hlst]
 have HL := hid hlst
 obtain ⟨s, hs⟩ : ∃ s : ByteArray, (⟨nm.toArray⟩ : ByteArray) = s := ⟨_, rfl⟩
 rw [hs]
 have HS := hid hs
 have l0 : (0 : Int) ≤ lst := by omega
 have l1 : lst < 40 := by omega
 have n0 : (0 : Int) ≤ (n : Int) := by omega
 have n1 : (n : Int) < 40 := by omega
 clear hlst hs hr hop hnm hN0 hnN
 obtain ⟨W1, hW1⟩ : ∃ W1, W.alloc (.map #[] 0) = W1 := ⟨_, rfl⟩
 have hm1 := hid (hW1 ▸ MapB.made W : MapB W1 W.heap.size 0 fun _ => none)
 have hq1 := hid (hW1 ▸ (Below.refl _ W).alloc (Nat.le_refl _) _ : Below W.heap.size W W1)
 go_enter Tryd.func52, Tryd.ntmps52
 go_wp2_with fail
 go_loopw [0, 12] (fun o i wr => ∃ k : Nat, k ≤ N ∧ o = .int .u8 ((op : Int) + (k : Int)) ∧ i = .int .i64 ((n : Int) + (k : Int)) ∧ MapB wr W.heap.size k (numF op nm n r k) ∧ Below W.heap.size W wr ∧ W.heap.size < wr.heap.size) (fun _ i _ => 40 - (intOf i).toNat)
 case atStart => exact ⟨0, Nat.zero_le _, by simp, by simp, by rw [numF_zero]; exact hm1.out, hq1.out, hm1.out.lt⟩
 case round =>
  obtain ⟨k, hk, rfl, rfl, hm, hq, hlt⟩ := hrel
  have HM := hid hm
  have HQ := hid (And.intro hq hlt)
  clear hm hq hlt hm1 hq1 hW1
  by_cases hkN : k < N
  ·have c1 : (n : Int) + (k : Int) ≤ lst := by have := HL.out; omega
   have c2 : (0 : Int) ≤ (k : Int) := by omega
   have c3 : (op : Int) + (k : Int) + 1 ≤ 255 := by have := HH.out.1; omega
   have c4 : (0 : Int) ≤ (op : Int) := by omega
   obtain ⟨po, pu, ga, hrp⟩ : ∃ po pu ga, r (n + k) = (po, pu, ga) := ⟨_, _, _, rfl⟩
   have HC := hid (HR.out (n + k) (by have := HH.out.2.2.2; omega) wr)
   have HI := hid (itoa_any (n + k) (by have := HH.out.2.2.2; omega))
   rw [hrp] at HC
   unfold infV at HC
   simp only [Int.natCast_add] at HC HI
   have HP := hid hrp
   have hsz : ¬ 9223372036854775807 < s.size + (decL (n + k)).length := by
    have e1 : s.size = nm.length := by rw [← HS.out]; simp [ByteArray.size]
    have e2 : (decL (n + k)).length ≤ 2 := by unfold decL; split <;> simp
    have := HH.out.2.1
    omega
   have HK := hid hkN
   clear hkN hk hrp
   go_wp2_with (go_at_call 54; refine HC.out.mono ?_; rintro _ w1 ⟨rfl, q1⟩)
   obtain ⟨W2, hW2⟩ : ∃ W2, w1.alloc (.cells #[.string ⟨#[]⟩, .int .i64 (po : Int), .int .i64 (pu : Int), .int .i64 (ga : Int)] tI) = W2 := ⟨_, rfl⟩
   have q2 : Below w1.heap.size w1 W2 := hW2 ▸ (Below.refl _ w1).alloc (Nat.le_refl _) _
   have m2 : Has W2 w1.heap.size tI #[.string ⟨#[]⟩, .int .i64 (po : Int), .int .i64 (pu : Int), .int .i64 (ga : Int)] := hW2 ▸ Has.new _ _ _
   have q12 := q1.trans (q2.mono q1.size)
   have hm2 := HM.out.below q12 HQ.out.2
   have Q2 := hid (HQ.out.1.trans (q12.mono HQ.out.1.size))
   have HL1 := hid (show W.heap.size < w1.heap.size from Nat.lt_of_lt_of_le HQ.out.2 q1.size)
   have m3 := m2.set 0 (.string (s ++ ⟨(decL (n + k)).toArray⟩))
   have M2 := hid (show MapB (W2.setCell ⟨w1.heap.size, 0, none⟩ (.string (s ++ ⟨(decL (n + k)).toArray⟩))) W.heap.size k (numF op nm n r k) from hm2.below (b := w1.heap.size) ((Below.refl _ W2).setCell (p := ⟨w1.heap.size, 0, none⟩) (Nat.le_refl _) _) HL1.out)
   have Q3 := hid (Q2.out.setCell (p := ⟨w1.heap.size, 0, none⟩) (Nat.le_of_lt HL1.out) (.string (s ++ ⟨(decL (n + k)).toArray⟩)))
   have L3 := hid (show W.heap.size < (W2.setCell ⟨w1.heap.size, 0, none⟩ (.string (s ++ ⟨(decL (n + k)).toArray⟩))).heap.size from M2.out.lt)
   unfold tI at hW2
   rw [hW2]
   have a0 := m2.cell 0 _ rfl
   have af := m2.frozen 0
   have bc0 := m3.cell 0 _ rfl
   have bc1 := m3.cell 1 _ rfl
   have bc2 := m3.cell 2 _ rfl
   have bc3 := m3.cell 3 _ rfl
   clear q1 q2 m2 m3 q12 hm2 hW2
   have HX := hid (show Value.agg #[.string (s ++ ⟨(decL (n + k)).toArray⟩), .int .i64 (po : Int), .int .i64 (pu : Int), .int .i64 (ga : Int)] = infV (nm ++ decL (n + k), r (n + k)) by rw [HP.out, ← HS.out]; unfold infV; rw [catB])
   refine (HI.out _).mono ?_
   rintro _ w3 ⟨rfl, rfl⟩
   go_wp2_with (refine wpList_putMB _ rfl _ _ _ (.inl rfl) _ _ _ rfl M2.out (by have := HH.out.2.2.2; have := HK.out; omega) (op + k) (nm ++ decL (n + k), r (n + k)) (by simp only [Int.natCast_add]; rfl) (by have := HH.out.1; have := HK.out; omega) (HX.out) ?_; intro w4 h4 g4)
   case roundEnd =>
    have hg := HQ.out
    rw [numF_succ] at h4
    have hb4 := Q3.out.grown g4 (Nat.le_of_lt L3.out) (fun j e => by cases e; exact Nat.le_refl _)
    refine ⟨⟨k + 1, by have := HK.out; omega, congrArg (Value.int .u8) (by simp; omega), congrArg (Value.int .i64) (by simp; omega), h4, hb4, Nat.lt_of_lt_of_le L3.out g4.size⟩, ?_⟩
    simp only [intOf]
    omega
  ·obtain rfl : k = N := by omega
   have c1 : ¬ ((n : Int) + (k : Int) ≤ lst) := by have := HL.out; omega
   have c2 : (0 : Int) ≤ (k : Int) := by omega
   clear hkN hk
   go_wp2_with fail
   go_ret
   exact ⟨_, k, rfl, by have := HH.out.2.2.2; omega, HM.out, Nat.le_refl _, HQ.out.1⟩
theorem numbered_row2 (r : Nat → Nat × Nat × Nat) (hr : RuleOk 55 r) (op : Nat) (nm : List UInt8) (n N : Nat) (hop : op + N < 256) (hnm : nm.length ≤ 5) (hN0 : 0 < N) (hnN : n + N ≤ 40) (W : World) :
  Calls Tryd.prog 52 #[.int .u8 (op : Int), .string ⟨nm.toArray⟩, .int .i64 (n : Int), .int .i64 ((n : Int) + (N : Int) - 1), .func (.func 55) #[] #[]] W (NewB W (numF op nm n r N)) := by
 have HR := hid hr
 have hmm := fun (x : Int) => run_makeMap_hint (P := Tryd.prog) tMB tB tI .i64 x Tryd.underlying52
 unfold tMB at hmm
 have HH := hid (And.intro hop (And.intro hnm (And.intro hN0 hnN)))
 obtain ⟨lst, hlst⟩ : ∃ lst : Int, (n : Int) + (N : Int) - 1 = lst := ⟨_, rfl⟩
 rw [hlst]
 have HL := hid hlst
 obtain ⟨s, hs⟩ : ∃ s : ByteArray, (⟨nm.toArray⟩ : ByteArray) = s := ⟨_, rfl⟩
 rw [hs]
 have HS := hid hs
 have l0 : (0 : Int) ≤ lst := by omega
 have l1 : lst < 40 := by omega
 have n0 : (0 : Int) ≤ (n : Int) := by omega
 have n1 : (n : Int) < 40 := by omega
 clear hlst hs hr hop hnm hN0 hnN
 obtain ⟨W1, hW1⟩ : ∃ W1, W.alloc (.map #[] 0) = W1 := ⟨_, rfl⟩
 have hm1 := hid (hW1 ▸ MapB.made W : MapB W1 W.heap.size 0 fun _ => none)
 have hq1 := hid (hW1 ▸ (Below.refl _ W).alloc (Nat.le_refl _) _ : Below W.heap.size W W1)
 go_enter Tryd.func52, Tryd.ntmps52
 go_wp2_with fail
 go_loopw [0, 12] (fun o i wr => ∃ k : Nat, k ≤ N ∧ o = .int .u8 ((op : Int) + (k : Int)) ∧ i = .int .i64 ((n : Int) + (k : Int)) ∧ MapB wr W.heap.size k (numF op nm n r k) ∧ Below W.heap.size W wr ∧ W.heap.size < wr.heap.size) (fun _ i _ => 40 - (intOf i).toNat)
 case atStart => exact ⟨0, Nat.zero_le _, by simp, by simp, by rw [numF_zero]; exact hm1.out, hq1.out, hm1.out.lt⟩
 case round =>
  obtain ⟨k, hk, rfl, rfl, hm, hq, hlt⟩ := hrel
  have HM := hid hm
  have HQ := hid (And.intro hq hlt)
  clear hm hq hlt hm1 hq1 hW1
  by_cases hkN : k < N
  ·have c1 : (n : Int) + (k : Int) ≤ lst := by have := HL.out; omega
   have c2 : (0 : Int) ≤ (k : Int) := by omega
   have c3 : (op : Int) + (k : Int) + 1 ≤ 255 := by have := HH.out.1; omega
   have c4 : (0 : Int) ≤ (op : Int) := by omega
   obtain ⟨po, pu, ga, hrp⟩ : ∃ po pu ga, r (n + k) = (po, pu, ga) := ⟨_, _, _, rfl⟩
   have HC := hid (HR.out (n + k) (by have := HH.out.2.2.2; omega) wr)
   have HI := hid (itoa_any (n + k) (by have := HH.out.2.2.2; omega))
   rw [hrp] at HC
   unfold infV at HC
   simp only [Int.natCast_add] at HC HI
   have HP := hid hrp
   have hsz : ¬ 9223372036854775807 < s.size + (decL (n + k)).length := by
    have e1 : s.size = nm.length := by rw [← HS.out]; simp [ByteArray.size]
    have e2 : (decL (n + k)).length ≤ 2 := by unfold decL; split <;> simp
    have := HH.out.2.1
    omega
   have HK := hid hkN
   clear hkN hk hrp
   go_wp2_with (go_at_call 55; refine HC.out.mono ?_; rintro _ w1 ⟨rfl, q1⟩)
   obtain ⟨W2, hW2⟩ : ∃ W2, w1.alloc (.cells #[.string ⟨#[]⟩, .int .i64 (po : Int), .int .i64 (pu : Int), .int .i64 (ga : Int)] tI) = W2 := ⟨_, rfl⟩
   have q2 : Below w1.heap.size w1 W2 := hW2 ▸ (Below.refl _ w1).alloc (Nat.le_refl _) _
   have m2 : Has W2 w1.heap.size tI #[.string ⟨#[]⟩, .int .i64 (po : Int), .int .i64 (pu : Int), .int .i64 (ga : Int)] := hW2 ▸ Has.new _ _ _
   have q12 := q1.trans (q2.mono q1.size)
   have hm2 := HM.out.below q12 HQ.out.2
   have Q2 := hid (HQ.out.1.trans (q12.mono HQ.out.1.size))
   have HL1 := hid (show W.heap.size < w1.heap.size from Nat.lt_of_lt_of_le HQ.out.2 q1.size)
   have m3 := m2.set 0 (.string (s ++ ⟨(decL (n + k)).toArray⟩))
   have M2 := hid (show MapB (W2.setCell ⟨w1.heap.size, 0, none⟩ (.string (s ++ ⟨(decL (n + k)).toArray⟩))) W.heap.size k (numF op nm n r k) from hm2.below (b := w1.heap.size) ((Below.refl _ W2).setCell (p := ⟨w1.heap.size, 0, none⟩) (Nat.le_refl _) _) HL1.out)
   have Q3 := hid (Q2.out.setCell (p := ⟨w1.heap.size, 0, none⟩) (Nat.le_of_lt HL1.out) (.string (s ++ ⟨(decL (n + k)).toArray⟩)))
   have L3 := hid (show W.heap.size < (W2.setCell ⟨w1.heap.size, 0, none⟩ (.string (s ++ ⟨(decL (n + k)).toArray⟩))).heap.size from M2.out.lt)
   unfold tI at hW2
   rw [hW2]
   have a0 := m2.cell 0 _ rfl
   have af := m2.frozen 0
   have bc0 := m3.cell 0 _ rfl
   have bc1 := m3.cell 1 _ rfl
   have bc2 := m3.cell 2 _ rfl
   have bc3 := m3.cell 3 _ rfl
   clear q1 q2 m2 m3 q12 hm2 hW2
   have HX := hid (show Value.agg #[.string (s ++ ⟨(decL (n + k)).toArray⟩), .int .i64 (po : Int), .int .i64 (pu : Int), .int .i64 (ga : Int)] = infV (nm ++ decL (n + k), r (n + k)) by rw [HP.out, ← HS.out]; unfold infV; rw [catB])
   refine (HI.out _).mono ?_
   rintro _ w3 ⟨rfl, rfl⟩
   go_wp2_with (refine wpList_putMB _ rfl _ _ _ (.inl rfl) _ _ _ rfl M2.out (by have := HH.out.2.2.2; have := HK.out; omega) (op + k) (nm ++ decL (n + k), r (n + k)) (by simp only [Int.natCast_add]; rfl) (by have := HH.out.1; have := HK.out; omega) (HX.out) ?_; intro w4 h4 g4)
   case roundEnd =>
    have hg := HQ.out
    rw [numF_succ] at h4
    have hb4 := Q3.out.grown g4 (Nat.le_of_lt L3.out) (fun j e => by cases e; exact Nat.le_refl _)
    refine ⟨⟨k + 1, by have := HK.out; omega, congrArg (Value.int .u8) (by simp; omega), congrArg (Value.int .i64) (by simp; omega), h4, hb4, Nat.lt_of_lt_of_le L3.out g4.size⟩, ?_⟩
    simp only [intOf]
    omega
  ·obtain rfl : k = N := by omega
   have c1 : ¬ ((n : Int) + (k : Int) ≤ lst) := by have := HL.out; omega
   have c2 : (0 : Int) ≤ (k : Int) := by omega
   clear hkN hk
   go_wp2_with fail
   go_ret
   exact ⟨_, k, rfl, by have := HH.out.2.2.2; omega, HM.out, Nat.le_refl _, HQ.out.1⟩
theorem numbered_row3 (r : Nat → Nat × Nat × Nat) (hr : RuleOk 56 r) (op : Nat) (nm : List UInt8) (n N : Nat) (hop : op + N < 256) (hnm : nm.length ≤ 5) (hN0 : 0 < N) (hnN : n + N ≤ 40) (W : World) :
  Calls Tryd.prog 52 #[.int .u8 (op : Int), .string ⟨nm.toArray⟩, .int .i64 (n : Int), .int .i64 ((n : Int) + (N : Int) - 1), .func (.func 56) #[] #[]] W (NewB W (numF op nm n r N)) := by
 have HR := hid hr
 have hmm := fun (x : Int) => run_makeMap_hint (P := Tryd.prog) tMB tB tI .i64 x Tryd.underlying52
 unfold tMB at hmm
 have HH := hid (And.intro hop (And.intro hnm (And.intro hN0 hnN)))
 obtain ⟨lst, hlst⟩ : ∃ lst : Int, (n : Int) + (N : Int) - 1 = lst := ⟨_, rfl⟩
 rw [hlst]
 have HL := hid hlst
 obtain ⟨s, hs⟩ : ∃ s : ByteArray, (⟨nm.toArray⟩ : ByteArray) = s := ⟨_, rfl⟩
 rw [hs]
 have HS := hid hs
 have l0 : (0 : Int) ≤ lst := by omega
 have l1 : lst < 40 := by omega
 have n0 : (0 : Int) ≤ (n : Int) := by omega
 have n1 : (n : Int) < 40 := by omega
 clear hlst hs hr hop hnm hN0 hnN
 obtain ⟨W1, hW1⟩ : ∃ W1, W.alloc (.map #[] 0) = W1 := ⟨_, rfl⟩
 have hm1 := hid (hW1 ▸ MapB.made W : MapB W1 W.heap.size 0 fun _ => none)
 have hq1 := hid (hW1 ▸ (Below.refl _ W).alloc (Nat.le_refl _) _ : Below W.heap.size W W1)
 go_enter Tryd.func52, Tryd.ntmps52
 go_wp2_with fail
 go_loopw [0, 12] (fun o i wr => ∃ k : Nat, k ≤ N ∧ o = .int .u8 ((op : Int) + (k : Int)) ∧ i = .int .i64 ((n : Int) + (k : Int)) ∧ MapB wr W.heap.size k (numF op nm n r k) ∧ Below W.heap.size W wr ∧ W.heap.size < wr.heap.size) (fun _ i _ => 40 - (intOf i).toNat)
 case atStart => exact ⟨0, Nat.zero_le _, by simp, by simp, by rw [numF_zero]; exact hm1.out, hq1.out, hm1.out.lt⟩
 case round =>
  obtain ⟨k, hk, rfl, rfl, hm, hq, hlt⟩ := hrel
  have HM := hid hm
  have HQ := hid (And.intro hq hlt)
  clear hm hq hlt hm1 hq1 hW1
  by_cases hkN : k < N
  ·have c1 : (n : Int) + (k : Int) ≤ lst := by have := HL.out; omega
   have c2 : (0 : Int) ≤ (k : Int) := by omega
   have c3 : (op : Int) + (k : Int) + 1 ≤ 255 := by have := HH.out.1; omega
   have c4 : (0 : Int) ≤ (op : Int) := by omega
   obtain ⟨po, pu, ga, hrp⟩ : ∃ po pu ga, r (n + k) = (po, pu, ga) := ⟨_, _, _, rfl⟩
   have HC := hid (HR.out (n + k) (by have := HH.out.2.2.2; omega) wr)
   have HI := hid (itoa_any (n + k) (by have := HH.out.2.2.2; omega))
   rw [hrp] at HC
   unfold infV at HC
   simp only [Int.natCast_add] at HC HI
   have HP := hid hrp
   have hsz : ¬ 9223372036854775807 < s.size + (decL (n + k)).length := by
    have e1 : s.size = nm.length := by rw [← HS.out]; simp [ByteArray.size]
    have e2 : (decL (n + k)).length ≤ 2 := by unfold decL; split <;> simp
    have := HH.out.2.1
    omega
   have HK := hid hkN
   clear hkN hk hrp
   go_wp2_with (go_at_call 56; refine HC.out.mono ?_; rintro _ w1 ⟨rfl, q1⟩)
   obtain ⟨W2, hW2⟩ : ∃ W2, w1.alloc (.cells #[.string ⟨#[]⟩, .int .i64 (po : Int), .int .i64 (pu : Int), .int .i64 (ga : Int)] tI) = W2 := ⟨_, rfl⟩
   have q2 : Below w1.heap.size w1 W2 := hW2 ▸ (Below.refl _ w1).alloc (Nat.le_refl _) _
   have m2 : Has W2 w1.heap.size tI #[.string ⟨#[]⟩, .int .i64 (po : Int), .int .i64 (pu : Int), .int .i64 (ga : Int)] := hW2 ▸ Has.new _ _ _
   have q12 := q1.trans (q2.mono q1.size)
   have hm2 := HM.out.below q12 HQ.out.2
   have Q2 := hid (HQ.out.1.trans (q12.mono HQ.out.1.size))
   have HL1 := hid (show W.heap.size < w1.heap.size from Nat.lt_of_lt_of_le HQ.out.2 q1.size)
   have m3 := m2.set 0 (.string (s ++ ⟨(decL (n + k)).toArray⟩))
   have M2 := hid (show MapB (W2.setCell ⟨w1.heap.size, 0, none⟩ (.string (s ++ ⟨(decL (n + k)).toArray⟩))) W.heap.size k (numF op nm n r k) from hm2.below (b := w1.heap.size) ((Below.refl _ W2).setCell (p := ⟨w1.heap.size, 0, none⟩) (Nat.le_refl _) _) HL1.out)
   have Q3 := hid (Q2.out.setCell (p := ⟨w1.heap.size, 0, none⟩) (Nat.le_of_lt HL1.out) (.string (s ++ ⟨(decL (n + k)).toArray⟩)))
   have L3 := hid (show W.heap.size < (W2.setCell ⟨w1.heap.size, 0, none⟩ (.string (s ++ ⟨(decL (n + k)).toArray⟩))).heap.size from M2.out.lt)
   unfold tI at hW2
   rw [hW2]
   have a0 := m2.cell 0 _ rfl
   have af := m2.frozen 0
   have bc0 := m3.cell 0 _ rfl
   have bc1 := m3.cell 1 _ rfl
   have bc2 := m3.cell 2 _ rfl
   have bc3 := m3.cell 3 _ rfl
   clear q1 q2 m2 m3 q12 hm2 hW2
   have HX := hid (show Value.agg #[.string (s ++ ⟨(decL (n + k)).toArray⟩), .int .i64 (po : Int), .int .i64 (pu : Int), .int .i64 (ga : Int)] = infV (nm ++ decL (n + k), r (n + k)) by rw [HP.out, ← HS.out]; unfold infV; rw [catB])
   refine (HI.out _).mono ?_
   rintro _ w3 ⟨rfl, rfl⟩
   go_wp2_with (refine wpList_putMB _ rfl _ _ _ (.inl rfl) _ _ _ rfl M2.out (by have := HH.out.2.2.2; have := HK.out; omega) (op + k) (nm ++ decL (n + k), r (n + k)) (by simp only [Int.natCast_add]; rfl) (by have := HH.out.1; have := HK.out; omega) (HX.out) ?_; intro w4 h4 g4)
   case roundEnd =>
    have hg := HQ.out
    rw [numF_succ] at h4
    have hb4 := Q3.out.grown g4 (Nat.le_of_lt L3.out) (fun j e => by cases e; exact Nat.le_refl _)
    refine ⟨⟨k + 1, by have := HK.out; omega, congrArg (Value.int .u8) (by simp; omega), congrArg (Value.int .i64) (by simp; omega), h4, hb4, Nat.lt_of_lt_of_le L3.out g4.size⟩, ?_⟩
    simp only [intOf]
    omega
  ·obtain rfl : k = N := by omega
   have c1 : ¬ ((n : Int) + (k : Int) ≤ lst) := by have := HL.out; omega
   have c2 : (0 : Int) ≤ (k : Int) := by omega
   clear hkN hk
   go_wp2_with fail
   go_ret
   exact ⟨_, k, rfl, by have := HH.out.2.2.2; omega, HM.out, Nat.le_refl _, HQ.out.1⟩
def RowP (w : World) (f : Nat → Option Inf) (e : Ending) (w' : World) : Prop := ∃ v, e = .returned v ∧ MapV w' v 40 f ∧ (∀ S, v = .map (some S) → w.heap.size ≤ S) ∧ Below w.heap.size w w'
theorem NewB.row {w w' : World} {f : Nat → Option Inf} {e : Ending} (h : NewB w f e w') : RowP w f e w' := by
 obtain ⟨B, n, rfl, hn, hm, h1, hb⟩ := h
 exact ⟨_, rfl, .inr ⟨B, rfl, hm.mono hn⟩, (fun S e => by cases e; exact h1), hb⟩
theorem NewB.congr {w w' : World} {f g : Nat → Option Inf} {e : Ending} (h : NewB w f e w') (hf : ∀ op, op < 256 → f op = g op) : NewB w g e w' := by
 obtain ⟨B, n, rfl, hn, hm, h1, hb⟩ := h
 exact ⟨B, n, rfl, hn, hm.congr hf, h1, hb⟩
theorem row_0 (op : Nat) (ho : op < 256) (hd : op / 16 = 0) (W : World) : Calls Tryd.prog 26 #[.int .u8 (op : Int)] W (RowP W (findI (opRow 0))) := by
 have h0 : (0 : Int) ≤ (op : Int) := by omega
 have h1 : (op : Int) < 256 := by omega
 have h2 : (op : Int) / 16 = 0 := by omega
 clear ho hd
 have HC := hid (reckoning_any W)
 go_enter Tryd.func26, Tryd.ntmps26
 go_wp2_with fail
 refine HC.out.mono ?_
 rintro e w1 h
 obtain ⟨v, rfl, h'⟩ := h.row
 have H := hid h'
 clear h h'
 go_wp2_with fail
 go_ret
 exact ⟨v, rfl, H.out⟩
theorem row_1 (op : Nat) (ho : op < 256) (hd : op / 16 = 1) (W : World) : Calls Tryd.prog 26 #[.int .u8 (op : Int)] W (RowP W (findI (opRow 1))) := by
 have h0 : (0 : Int) ≤ (op : Int) := by omega
 have h1 : (op : Int) < 256 := by omega
 have h2 : (op : Int) / 16 = 1 := by omega
 clear ho hd
 have HC := hid (comparing_any W)
 go_enter Tryd.func26, Tryd.ntmps26
 go_wp2_with fail
 refine HC.out.mono ?_
 rintro e w1 h
 obtain ⟨v, rfl, h'⟩ := h.row
 have H := hid h'
 clear h h'
 go_wp2_with fail
 go_ret
 exact ⟨v, rfl, H.out⟩
theorem row_2 (op : Nat) (ho : op < 256) (hd : op / 16 = 2) (W : World) : Calls Tryd.prog 26 #[.int .u8 (op : Int)] W (RowP W (findI (opRow 2))) := by
 have h0 : (0 : Int) ≤ (op : Int) := by omega
 have h1 : (op : Int) < 256 := by omega
 have h2 : (op : Int) / 16 = 2 := by omega
 clear ho hd
 have hmm := @run_makeMap Tryd.prog
 have hb4 := build4
 unfold tI at hb4
 have hm0 := MapB.made W
 have hb0 := (Below.refl W.heap.size W).alloc (Nat.le_refl _) (.map #[] 0)
 have hs0 : W.heap.size ≤ (W.alloc (.map #[] 0)).heap.size := hb0.size
 go_enter Tryd.func26, Tryd.ntmps26
 go_wp2_with (first | (refine wpList_putMB _ rfl _ _ _ (.inr rfl) _ _ _ rfl hm0 (by omega) 32 ([75, 69, 67, 67, 65, 75, 50, 53, 54], 2, 1, 30) rfl (by decide) rfl ?_; intro w1 h1 g1))
 go_ret
 exact ⟨_, rfl, .inr ⟨_, rfl, (h1.mono (by decide)).congr (by decide +kernel)⟩, (fun S e => by cases e; exact Nat.le_refl _), hb0.grown g1 hs0 (fun k e => by cases e; exact Nat.le_refl _)⟩
theorem row_3 (op : Nat) (ho : op < 256) (hd : op / 16 = 3) (W : World) : Calls Tryd.prog 26 #[.int .u8 (op : Int)] W (RowP W (findI (opRow 3))) := by
 have h0 : (0 : Int) ≤ (op : Int) := by omega
 have h1 : (op : Int) < 256 := by omega
 have h2 : (op : Int) / 16 = 3 := by omega
 clear ho hd
 have HC := hid (asking_any W)
 go_enter Tryd.func26, Tryd.ntmps26
 go_wp2_with fail
 refine HC.out.mono ?_
 rintro e w1 h
 obtain ⟨v, rfl, h'⟩ := h.row
 have H := hid h'
 clear h h'
 go_wp2_with fail
 go_ret
 exact ⟨v, rfl, H.out⟩
theorem row_4 (op : Nat) (ho : op < 256) (hd : op / 16 = 4) (W : World) : Calls Tryd.prog 26 #[.int .u8 (op : Int)] W (RowP W (findI (opRow 4))) := by
 have h0 : (0 : Int) ≤ (op : Int) := by omega
 have h1 : (op : Int) < 256 := by omega
 have h2 : (op : Int) / 16 = 4 := by omega
 clear ho hd
 have HC := hid (askingTheBlock_any W)
 go_enter Tryd.func26, Tryd.ntmps26
 go_wp2_with fail
 refine HC.out.mono ?_
 rintro e w1 h
 obtain ⟨v, rfl, h'⟩ := h.row
 have H := hid h'
 clear h h'
 go_wp2_with fail
 go_ret
 exact ⟨v, rfl, H.out⟩
theorem row_5 (op : Nat) (ho : op < 256) (hd : op / 16 = 5) (W : World) : Calls Tryd.prog 26 #[.int .u8 (op : Int)] W (RowP W (findI (opRow 5))) := by
 have h0 : (0 : Int) ≤ (op : Int) := by omega
 have h1 : (op : Int) < 256 := by omega
 have h2 : (op : Int) / 16 = 5 := by omega
 clear ho hd
 have HC := hid (keeping_any W)
 go_enter Tryd.func26, Tryd.ntmps26
 go_wp2_with fail
 refine HC.out.mono ?_
 rintro e w1 h
 obtain ⟨v, rfl, h'⟩ := h.row
 have H := hid h'
 clear h h'
 go_wp2_with fail
 go_ret
 exact ⟨v, rfl, H.out⟩
theorem row_6 (op : Nat) (ho : op < 256) (hd : op / 16 = 6) (W : World) : Calls Tryd.prog 26 #[.int .u8 (op : Int)] W (RowP W (findI (opRow 6))) := by
 have h0 : (0 : Int) ≤ (op : Int) := by omega
 have h1 : (op : Int) < 256 := by omega
 have h2 : (op : Int) / 16 = 6 := by omega
 clear ho hd
 have HC := hid (numbered_pushing _ rule_pushing 96 [80, 85, 83, 72] 1 16 (by decide) (by decide) (by decide) (by decide) W)
 simp only [Int.cast_ofNat_Int, Int.reduceAdd, Int.reduceSub] at HC
 go_enter Tryd.func26, Tryd.ntmps26
 go_wp2_with fail
 refine HC.out.mono ?_
 rintro e w1 h
 obtain ⟨v, rfl, h'⟩ := (h.congr (g := findI (opRow 6)) (by decide +kernel)).row
 have H := hid h'
 clear h h'
 go_wp2_with fail
 go_ret
 exact ⟨v, rfl, H.out⟩
theorem row_7 (op : Nat) (ho : op < 256) (hd : op / 16 = 7) (W : World) : Calls Tryd.prog 26 #[.int .u8 (op : Int)] W (RowP W (findI (opRow 7))) := by
 have h0 : (0 : Int) ≤ (op : Int) := by omega
 have h1 : (op : Int) < 256 := by omega
 have h2 : (op : Int) / 16 = 7 := by omega
 clear ho hd
 have HC := hid (numbered_pushing _ rule_pushing 112 [80, 85, 83, 72] 17 16 (by decide) (by decide) (by decide) (by decide) W)
 simp only [Int.cast_ofNat_Int, Int.reduceAdd, Int.reduceSub] at HC
 go_enter Tryd.func26, Tryd.ntmps26
 go_wp2_with fail
 refine HC.out.mono ?_
 rintro e w1 h
 obtain ⟨v, rfl, h'⟩ := (h.congr (g := findI (opRow 7)) (by decide +kernel)).row
 have H := hid h'
 clear h h'
 go_wp2_with fail
 go_ret
 exact ⟨v, rfl, H.out⟩
theorem row_8 (op : Nat) (ho : op < 256) (hd : op / 16 = 8) (W : World) : Calls Tryd.prog 26 #[.int .u8 (op : Int)] W (RowP W (findI (opRow 8))) := by
 have h0 : (0 : Int) ≤ (op : Int) := by omega
 have h1 : (op : Int) < 256 := by omega
 have h2 : (op : Int) / 16 = 8 := by omega
 clear ho hd
 have HC := hid (numbered_row1 _ rule_row1 128 [68, 85, 80] 1 16 (by decide) (by decide) (by decide) (by decide) W)
 simp only [Int.cast_ofNat_Int, Int.reduceAdd, Int.reduceSub] at HC
 go_enter Tryd.func26, Tryd.ntmps26
 go_wp2_with fail
 refine HC.out.mono ?_
 rintro e w1 h
 obtain ⟨v, rfl, h'⟩ := (h.congr (g := findI (opRow 8)) (by decide +kernel)).row
 have H := hid h'
 clear h h'
 go_wp2_with fail
 go_ret
 exact ⟨v, rfl, H.out⟩
theorem row_9 (op : Nat) (ho : op < 256) (hd : op / 16 = 9) (W : World) : Calls Tryd.prog 26 #[.int .u8 (op : Int)] W (RowP W (findI (opRow 9))) := by
 have h0 : (0 : Int) ≤ (op : Int) := by omega
 have h1 : (op : Int) < 256 := by omega
 have h2 : (op : Int) / 16 = 9 := by omega
 clear ho hd
 have HC := hid (numbered_row2 _ rule_row2 144 [83, 87, 65, 80] 1 16 (by decide) (by decide) (by decide) (by decide) W)
 simp only [Int.cast_ofNat_Int, Int.reduceAdd, Int.reduceSub] at HC
 go_enter Tryd.func26, Tryd.ntmps26
 go_wp2_with fail
 refine HC.out.mono ?_
 rintro e w1 h
 obtain ⟨v, rfl, h'⟩ := (h.congr (g := findI (opRow 9)) (by decide +kernel)).row
 have H := hid h'
 clear h h'
 go_wp2_with fail
 go_ret
 exact ⟨v, rfl, H.out⟩
theorem row_10 (op : Nat) (ho : op < 256) (hd : op / 16 = 10) (W : World) : Calls Tryd.prog 26 #[.int .u8 (op : Int)] W (RowP W (findI (opRow 10))) := by
 have h0 : (0 : Int) ≤ (op : Int) := by omega
 have h1 : (op : Int) < 256 := by omega
 have h2 : (op : Int) / 16 = 10 := by omega
 clear ho hd
 have HC := hid (numbered_row3 _ rule_row3 160 [76, 79, 71] 0 5 (by decide) (by decide) (by decide) (by decide) W)
 simp only [Int.cast_ofNat_Int, Int.reduceAdd, Int.reduceSub] at HC
 go_enter Tryd.func26, Tryd.ntmps26
 go_wp2_with fail
 refine HC.out.mono ?_
 rintro e w1 h
 obtain ⟨v, rfl, h'⟩ := (h.congr (g := findI (opRow 10)) (by decide +kernel)).row
 have H := hid h'
 clear h h'
 go_wp2_with fail
 go_ret
 exact ⟨v, rfl, H.out⟩
theorem row_11 (op : Nat) (ho : op < 256) (hd : op / 16 = 11) (W : World) : Calls Tryd.prog 26 #[.int .u8 (op : Int)] W (RowP W (findI (opRow 11))) := by
 have h0 : (0 : Int) ≤ (op : Int) := by omega
 have h1 : (op : Int) < 256 := by omega
 have h2 : (op : Int) / 16 = 11 := by omega
 clear ho hd
 go_enter Tryd.func26, Tryd.ntmps26
 go_wp2_with fail
 go_ret
 exact ⟨_, rfl, .inl ⟨rfl, fun _ _ => rfl⟩, (fun S e => by cases e), Below.refl _ _⟩
theorem row_12 (op : Nat) (ho : op < 256) (hd : op / 16 = 12) (W : World) : Calls Tryd.prog 26 #[.int .u8 (op : Int)] W (RowP W (findI (opRow 12))) := by
 have h0 : (0 : Int) ≤ (op : Int) := by omega
 have h1 : (op : Int) < 256 := by omega
 have h2 : (op : Int) / 16 = 12 := by omega
 clear ho hd
 go_enter Tryd.func26, Tryd.ntmps26
 go_wp2_with fail
 go_ret
 exact ⟨_, rfl, .inl ⟨rfl, fun _ _ => rfl⟩, (fun S e => by cases e), Below.refl _ _⟩
theorem row_13 (op : Nat) (ho : op < 256) (hd : op / 16 = 13) (W : World) : Calls Tryd.prog 26 #[.int .u8 (op : Int)] W (RowP W (findI (opRow 13))) := by
 have h0 : (0 : Int) ≤ (op : Int) := by omega
 have h1 : (op : Int) < 256 := by omega
 have h2 : (op : Int) / 16 = 13 := by omega
 clear ho hd
 go_enter Tryd.func26, Tryd.ntmps26
 go_wp2_with fail
 go_ret
 exact ⟨_, rfl, .inl ⟨rfl, fun _ _ => rfl⟩, (fun S e => by cases e), Below.refl _ _⟩
theorem row_14 (op : Nat) (ho : op < 256) (hd : op / 16 = 14) (W : World) : Calls Tryd.prog 26 #[.int .u8 (op : Int)] W (RowP W (findI (opRow 14))) := by
 have h0 : (0 : Int) ≤ (op : Int) := by omega
 have h1 : (op : Int) < 256 := by omega
 have h2 : (op : Int) / 16 = 14 := by omega
 clear ho hd
 go_enter Tryd.func26, Tryd.ntmps26
 go_wp2_with fail
 go_ret
 exact ⟨_, rfl, .inl ⟨rfl, fun _ _ => rfl⟩, (fun S e => by cases e), Below.refl _ _⟩
theorem row_15 (op : Nat) (ho : op < 256) (hd : op / 16 = 15) (W : World) : Calls Tryd.prog 26 #[.int .u8 (op : Int)] W (RowP W (findI (opRow 15))) := by
 have h0 : (0 : Int) ≤ (op : Int) := by omega
 have h1 : (op : Int) < 256 := by omega
 have h2 : (op : Int) / 16 = 15 := by omega
 clear ho hd
 have HC := hid (calling_any W)
 go_enter Tryd.func26, Tryd.ntmps26
 go_wp2_with fail
 refine HC.out.mono ?_
 rintro e w1 h
 obtain ⟨v, rfl, h'⟩ := h.row
 have H := hid h'
 clear h h'
 go_wp2_with fail
 go_ret
 exact ⟨v, rfl, H.out⟩
theorem row_any (op : Nat) (ho : op < 256) (W : World) : Calls Tryd.prog 26 #[.int .u8 (op : Int)] W (RowP W (findI (opRow (op / 16)))) := by
 obtain ⟨d, hd⟩ : ∃ d, op / 16 = d := ⟨_, rfl⟩
 rw [hd]
 match d, hd with
 | 0, hd => exact row_0 op ho hd W
 | 1, hd => exact row_1 op ho hd W
 | 2, hd => exact row_2 op ho hd W
 | 3, hd => exact row_3 op ho hd W
 | 4, hd => exact row_4 op ho hd W
 | 5, hd => exact row_5 op ho hd W
 | 6, hd => exact row_6 op ho hd W
 | 7, hd => exact row_7 op ho hd W
 | 8, hd => exact row_8 op ho hd W
 | 9, hd => exact row_9 op ho hd W
 | 10, hd => exact row_10 op ho hd W
 | 11, hd => exact row_11 op ho hd W
 | 12, hd => exact row_12 op ho hd W
 | 13, hd => exact row_13 op ho hd W
 | 14, hd => exact row_14 op ho hd W
 | 15, hd => exact row_15 op ho hd W
 | d + 16, hd => omega
theorem lookV_parts (f : Nat → Option Inf) (op : Nat) : ∃ (s : ByteArray) (po pu ga : Nat) (b : Bool), lookV f op = .tuple #[.agg #[.string s, .int .i64 (po : Int), .int .i64 (pu : Int), .int .i64 (ga : Int)], .bool b] := by
 obtain ⟨y, hy⟩ : ∃ y, (f op).getD noInf = y := ⟨_, rfl⟩
 obtain ⟨nm, po, pu, ga⟩ := y
 exact ⟨⟨nm.toArray⟩, po, pu, ga, (f op).isSome, by unfold lookV infV; rw [hy]⟩
theorem info_any (op : Nat) (ho : op < 256) (W : World) : Calls Tryd.prog 10 #[.int .u8 (op : Int)] W fun e w' => e = .returned (lookV opI op) ∧ Below W.heap.size W w' := by
 obtain ⟨s, po, pu, ga, b, e⟩ := lookV_parts opI op
 have HE := hid e
 have HF := hid (show lookV (findI (opRow (op / 16))) op = lookV opI op from rfl)
 have HO := hid ho
 clear e ho
 obtain ⟨W1, hW1⟩ : ∃ W1, W.alloc (.cells #[.string ⟨#[]⟩, .int .i64 0, .int .i64 0, .int .i64 0] 25) = W1 := ⟨_, rfl⟩
 have q1 : Below W.heap.size W W1 := hW1 ▸ (Below.refl _ W).alloc (Nat.le_refl _) _
 have n1 : Has W1 W.heap.size 25 #[.string ⟨#[]⟩, .int .i64 0, .int .i64 0, .int .i64 0] := hW1 ▸ Has.new _ _ _
 have Q1 := hid q1
 have N1 := hid n1
 clear q1 n1
 go_enter Tryd.func10, Tryd.ntmps10
 go_wp2_with fail
 refine (row_any op HO.out _).mono ?_
 rintro _ w2 ⟨v, rfl, hv, _, q2⟩
 have N2 := hid (N1.out.later q2)
 have Q2 := hid (Q1.out.trans (q2.mono Q1.out.size))
 have HL := hid (look_any w2 v 40 _ hv op HO.out)
 rw [HF.out, HE.out] at HL
 clear hv q2 hW1 N1
 go_wp2_with fail
 refine HL.out.mono ?_
 rintro _ w3 ⟨rfl, q3⟩
 obtain ⟨W4, hW4⟩ : ∃ W4, w3.alloc (.cells #[.string s, .int .i64 (po : Int), .int .i64 (pu : Int), .int .i64 (ga : Int)] tI) = W4 := ⟨_, rfl⟩
 have q4 : Below w3.heap.size w3 W4 := hW4 ▸ (Below.refl _ w3).alloc (Nat.le_refl _) _
 have m4 : Has W4 w3.heap.size tI #[.string s, .int .i64 (po : Int), .int .i64 (pu : Int), .int .i64 (ga : Int)] := hW4 ▸ Has.new _ _ _
 have n4 := (N2.out.later q3).later q4
 have Q4 := hid (Q2.out.trans ((q3.trans (q4.mono q3.size)).mono Q2.out.size))
 have N4 := hid n4
 have ac0 := n4.cell 0 _ rfl
 have ac1 := n4.cell 1 _ rfl
 have ac2 := n4.cell 2 _ rfl
 have ac3 := n4.cell 3 _ rfl
 have af0 := n4.frozen 0
 have af1 := n4.frozen 1
 have af2 := n4.frozen 2
 have af3 := n4.frozen 3
 have bc0 := m4.cell 0 _ rfl
 have bc1 := m4.cell 1 _ rfl
 have bc2 := m4.cell 2 _ rfl
 have bc3 := m4.cell 3 _ rfl
 unfold tI at hW4
 clear q3 q4 m4 n4
 go_wp2_with fail
 rw [HE.out]
 exact bodyPost_ret (results_infB (.inr rfl) rfl rfl rfl ((((N4.out.set 0 _).set 1 _).set 2 _).set 3 _)) rfl ⟨rfl, (((Q4.out.setCell (Nat.le_refl _) _).setCell (Nat.le_refl _) _).setCell (Nat.le_refl _) _).setCell (Nat.le_refl _) _⟩
def overB (g f : Nat → Option Inf) : Nat → Option Inf := fun op => (g op).or (f op)
def partB (g f : Nat → Option Inf) (left : Lit → Bool) : Nat → Option Inf := fun op => if (g op).isSome = true ∧ left (keyB op) = false then g op else f op
theorem copy_none (W : World) (B n : Nat) (f : Nat → Option Inf) (hd : MapB W B n f) :
  Calls Tryd.prog 59 #[.map (some B), .map none] W fun e w' => e = .returned (.tuple #[]) ∧ MapB w' B n f ∧ W.grownBy w' (some B) := by
 have hr := run_range_nilMap (P := Tryd.prog) W tMB tB tI Tryd.underlying52
 have hn := fun ty => run_next_nilMap (P := Tryd.prog) W ty 0 0 #[]
 have HB := hid (show MapB (W.alloc (.mapIter none 0 #[] 0)) B n f from hd.below ((Below.refl W.heap.size W).alloc (Nat.le_refl _) _) hd.lt)
 have HG := hid (show W.grownBy (W.alloc (.mapIter none 0 #[] 0)) (some B) from (World.grownBy_alloc W _ none).but _)
 clear hd
 unfold tMB at hr
 go_enter Tryd.func59, Tryd.ntmps59
 go_wp2_with fail
 go_loopw [8] (fun _ wr => wr = W.alloc (.mapIter none 0 #[] 0)) (fun _ _ => 0)
 case atStart => rfl
 case round =>
  subst hrel
  go_wp2_with fail
  exact bodyPost_end (results_none rfl _ _ _) rfl ⟨rfl, HB.out, HG.out⟩
theorem keyB_int {x : Int} {kl : Lit} (h : keyOf Tryd.prog tB (.int .u8 x) = some kl) : ∃ op : Nat, op < 256 ∧ x = (op : Int) ∧ kl = keyB op := by
 obtain ⟨y, e1, e2, hw⟩ := keyOf_int_inv Tryd.underlying5 h
 cases e1
 simp [Lit.wf, IntKind.min, IntKind.max, IntKind.signed, IntKind.bits] at hw
 exact ⟨x.toNat, by omega, by omega, by rw [e2]; unfold keyB; rw [Int.toNat_of_nonneg (by omega)]⟩
theorem keyB_same (a b : Nat) : (keyB a).sameKey (keyB b) = decide (a = b) := by
 unfold keyB Lit.sameKey
 simp only [true_and]
 exact decide_eq_decide.2 (by omega)
theorem copy_some (W : World) (B n S m : Nat) (f g : Nat → Option Inf) (hd : MapB W B n f) (hs : MapB W S m g) (hne : S ≠ B) (hn : n + m < 1000) :
  Calls Tryd.prog 59 #[.map (some B), .map (some S)] W fun e w' => e = .returned (.tuple #[]) ∧ MapB w' B (n + m) (overB g f) ∧ W.grownBy w' (some B) := by
 obtain ⟨D, hs1, hs2⟩ := hs
 have HT := hid hs2
 have HD := hid hd
 have HN := hid hn
 have HSL := hid hs1.lt
 have HSZ := hid hs1.size_le
 have HNE := hid hne
 clear hs2 hd hn
 go_enter Tryd.func59, Tryd.ntmps59
 go_wp2_with (refine wpList_range_own _ rfl _ _ rfl tB tI lawB Tryd.underlying52 RV S m D rfl hs1 ?_; intro w0 hrg0 hg0 hs0)
 go_frame
 have R0 := hid hrg0
 have G0 := hid (hg0.but (some B))
 have D0 := hid (HD.out.kept hg0 (by simp))
 have Z0 := hid hs0
 clear hrg0 hg0 hs0 hs1 hne
 obtain ⟨r, hr⟩ : ∃ r, W.heap.size = r := ⟨_, rfl⟩
 have HR := hid hr
 rw [hr] at R0 ⊢
 clear hr
 go_loopw [8] (fun _ wr => ∃ left cnt l, wr.ranges Tryd.prog tB RV S r m D left cnt ∧ MapB wr B l (partB g f left) ∧ l + cnt ≤ n + m ∧ W.grownBy wr (some B)) (fun _ wr => wr.rangeLeft S r)
 case atStart =>
  refine ⟨_, _, n, R0.out, D0.out.congr (fun op ho => ?_), by have := HSZ.out; omega, G0.out⟩
  have ht := HT.out op ho
  unfold partB
  cases hg : g op with
  | none => rw [if_neg (by simp)]
  | some i =>
   rw [hg] at ht
   rw [if_neg (by rw [ht.1]; simp)]
 case round =>
  obtain ⟨left, cnt, l, hrg, hm, hl, hg⟩ := hrel
  have HM := hid hm
  have HL := hid hl
  have HG := hid hg
  have HLE := hid hrg.left_eq
  clear hm hl hg R0 D0 G0 Z0
  go_wp2_with (refine wpList_next_ranges _ rfl _ rfl tB lawB RV (fun x : Int => Value.int .u8 x) (fun v : Value => v) (fun key kl h => by obtain ⟨x, e, _⟩ := keyOf_int_inv Tryd.underlying5 h; exact ⟨x, e⟩) (fun v y _ => ⟨v, rfl⟩) S r m D left cnt rfl hrg ?done ?more)
  ·intro hc0 hl0
   go_wp2_with fail
   refine bodyPost_end (results_none rfl _ _ _) rfl ⟨rfl, (HM.out.mono (by have := HL.out; omega)).congr (fun op ho => ?_), HG.out⟩
   unfold partB overB
   rw [hl0]
   cases hg : g op <;> simp
  ·intro x c kl yd yp w1 cnt1 hkey hlk hv hat hrg1 hlt hg1 hs1 hen
   obtain ⟨op, ho, rfl, rfl⟩ := keyB_int hkey
   have hh := has_true_of_atKey hat
   have ht := HT.out op ho
   obtain ⟨i, hgi⟩ : ∃ i, g op = some i := by
    cases hg : g op with
    | none => rw [hg] at ht; rw [show has D (keyB op) = false from ht] at hh; cases hh
    | some i => exact ⟨i, rfl⟩
   rw [hgi] at ht
   have hci : c = infV i := by
    have h1 := ht.2 .nil
    rw [hat] at h1
    simp only [RV, Option.some.injEq, Prod.mk.injEq] at hv
    rw [← hv.1] at h1
    simpa using h1
   subst hci
   obtain ⟨nm, po, pu, ga⟩ := i
   obtain ⟨s, hs⟩ : ∃ s : ByteArray, (⟨nm.toArray⟩ : ByteArray) = s := ⟨_, rfl⟩
   have hi : infV (nm, po, pu, ga) = .agg #[.string s, .int .i64 (po : Int), .int .i64 (pu : Int), .int .i64 (ga : Int)] := by rw [← hs]; rfl
   rw [hi] at hen ⊢
   have HI := hid hi.symm
   have HO := hid ho
   have HP := hid (show ∀ z, z < 256 → putMB (partB g f left) op (nm, po, pu, ga) z = partB g f (fun z => left z && !z.sameKey (keyB op)) z from fun z hz => by
    unfold putMB partB
    dsimp only
    by_cases hzo : z = op
    ·subst hzo
     rw [if_pos rfl, hgi, if_pos ⟨rfl, by rw [keyB_same]; simp⟩]
    ·rw [if_neg hzo]
     have e1 : (left (keyB z) && !(keyB z).sameKey (keyB op)) = left (keyB z) := by rw [keyB_same, decide_eq_false hzo]; simp
     simp only [e1])
   have RG := hid hrg1
   have G1 := hid (HG.out.andThen hg1 (fun j e => by cases e; exact .inl (by rw [HR.out]; exact Nat.le_refl _)))
   have BR := hid (show B < r from HR.out ▸ HD.out.lt)
   have M1 := hid (HM.out.kept hg1 (by have := BR.out; simp; omega))
   have LT := hid hlt
   clear hkey hlk hv hat hrg1 hlt hg1 hs1 hh ht hi hgi hs ho
   obtain ⟨W2, hW2⟩ : ∃ W2, w1.alloc (.cells #[.string s, .int .i64 (po : Int), .int .i64 (pu : Int), .int .i64 (ga : Int)] tI) = W2 := ⟨_, rfl⟩
   have g2 : w1.grownBy W2 none := hW2 ▸ World.grownBy_alloc w1 _ none
   have m2 : Has W2 w1.heap.size tI #[.string s, .int .i64 (po : Int), .int .i64 (pu : Int), .int .i64 (ga : Int)] := hW2 ▸ Has.new _ _ _
   have M2 := hid (M1.out.kept g2 (by simp))
   have R2 := hid (RG.out.kept g2 (by simp) (by simp))
   have G2 := hid (G1.out.andThen g2 (fun j e => by cases e))
   have bc0 := m2.cell 0 _ rfl
   have bc1 := m2.cell 1 _ rfl
   have bc2 := m2.cell 2 _ rfl
   have bc3 := m2.cell 3 _ rfl
   unfold tI at hW2
   clear g2 m2 M1 RG G1
   go_wp2_with (refine wpList_putMB _ rfl _ _ _ (.inl rfl) _ _ _ rfl M2.out (by have := HL.out; have := HN.out; have := LT.out; omega) op (nm, po, pu, ga) rfl HO.out HI.out ?_; intro w4 h4 g4)
   go_frame
   go_roundw
   case rel =>
    have r4 := R2.out.kept g4 (by have := HNE.out; simp; omega) (by have := BR.out; simp; omega)
    exact ⟨_, cnt1, l + 1, r4, h4.congr HP.out, by have := HL.out; have := LT.out; omega, G2.out.andThen g4 (fun j e => .inr e)⟩
   case measure =>
    have r4 := R2.out.kept g4 (by have := HNE.out; simp; omega) (by have := BR.out; simp; omega)
    rw [r4.left_eq, HLE.out]
    exact LT.out
end
end Go.Proofs.YthcmfadofogfaaaDoor
