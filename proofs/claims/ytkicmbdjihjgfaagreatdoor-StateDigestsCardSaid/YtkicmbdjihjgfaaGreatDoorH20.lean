/- Part. -/
import Derived.Test.YtkicmbdjihjgfaaGreatDoorH19
import Derived.Deep.WholeRow
set_option maxRecDepth 100000
set_option maxHeartbeats 16000000
namespace Go.Proofs.YtkicmbdjihjgfaaGreatDoor
section
open Go Go.RowKit Go.Shelf
attribute [local go_sem] Oper.semAt_some
def KC (n : Nat) (A X : World) : Prop := ∀ b o, n ≤ b → A.heap[b]? = some o → o.isCells = true → X.heap[b]? = some o
theorem KC.trans {n : Nat} {A B C : World} (h : KC n A B) (k : KC n B C) : KC n A C := fun b o hb ho hc => k b o hb (h b o hb ho hc) hc
theorem KC.put {n : Nat} (W : World) (l : Nat) (o o' : Obj) (_ : n ≤ l) (hl : W.heap[l]? = some o) (ho : o.isCells = false) (_ : o.isWalk = false) : KC n W (W.putObj l o') := fun b ob _ hob hc => by
 refine (World.putObj_heap_other (fun e => ?_)).trans hob
 subst e
 rw [hl] at hob
 cases hob
 rw [ho] at hc
 cases hc
theorem KC.later {n : Nat} {A X : World} (h : Below A.heap.size A X) : KC n A X := fun b o _ ho _ => (h.block b (Array.getElem?_eq_some_iff.1 ho).1).trans ho
theorem KC.set {n : Nat} (A : World) {p : Addr} (hp : p.block < n) (v : Value) : KC n A (A.setCell p v) := fun b o hb ho _ => (Below.heap_setCell A p v b (by omega)).trans ho
theorem Has.kc {n : Nat} {A X : World} {B : Nat} {t : TypeId} {cs : Array Value} (h : Has A B t cs) (hk : KC n A X) (hn : n ≤ B) : Has X B t cs := hk B _ hn h rfl
def wkV (k : Nat) : Array Value := #[.int .i64 (((k + 1) * (k + 2) / 2 : Nat) : Int), .agg #[.int .u64 (((wx k).1 : Nat) : Int), .int .u64 (((wx k).2 : Nat) : Int)]]
theorem walk_seq (n : Nat) (hn : 1 ≤ n) (w : World) : SeqB Fence.wide n Tryz.prog 134 #[] wkV (KC w.heap.size) 24 w := by
 intro l J Jx W hW hJA _ hY h0
 refine callsIn_of_wp Tryz.func134 rfl trivial ?_ rfl
 simp only [Tryz.ntmps134, List.size_toArray, List.length_cons, List.length_nil, Nat.reduceAdd, Nat.reduceSub, Array.replicate_succ, Array.replicate_zero, List.push_toArray, List.append_toArray, List.nil_append, List.cons_append]
 have HJA := hid hJA
 have hwW := hW.size
 have L0 := Has.new W 162 #[.int .u64 1, .int .u64 0]
 have J0 := hJA _ _ _ h0 (newA W (.cells #[.int .u64 1, .int .u64 0] 162))
 have hs0 : W.heap.size < (W.alloc (.cells #[.int .u64 1, .int .u64 0] 162)).heap.size := by simp
 clear hJA h0
 gi_wp2
 gi_loopw [5] (fun i wr => ∃ k : Nat, k ≤ 24 ∧ i = .int .i64 k ∧ J k wr ∧ Has wr W.heap.size 162 #[.int .u64 (((wx k).1 : Nat) : Int), .int .u64 (((wx k).2 : Nat) : Int)] ∧ W.heap.size < wr.heap.size) (fun i _ => 24 - (intOf i).toNat)
 case atStart => exact ⟨0, Nat.zero_le _, rfl, J0, L0, hs0⟩
 case round =>
  obtain ⟨k, hk, rfl, hJs, hL, hsz⟩ := hrel
  clear J0 L0 hs0
  by_cases hlt : k < 24
  ·obtain ⟨fn, tmps, assign, body, hy, hR⟩ := hY k wr hlt hJs
   unfold wkV at hy
   have hkI : (k : Int) < 24 := by omega
   have m0 : 0 ≤ ((k : Int) + 1) * ((k : Int) + 2) := by
    have := Int.mul_nonneg (show 0 ≤ (k : Int) + 1 by omega) (show 0 ≤ (k : Int) + 2 by omega); exact this
   have m1 : ((k : Int) + 1) * ((k : Int) + 2) ≤ 25 * 26 := Int.mul_le_mul (by omega) (by omega) (by omega) (by omega)
   have m2 : (((k : Int) + 1) * ((k : Int) + 2)).tdiv 2 = (((k + 1) * (k + 2) / 2 : Nat) : Int) := by
    rw [Int.tdiv_eq_ediv_of_nonneg m0, Int.natCast_ediv, Int.natCast_mul]; rfl
   have c0 := hL.cell 0 _ rfl
   have c1 := hL.cell 1 _ rfl
   have hx := (wx_lt k).1
   have hy5 := (wx_lt k).2
   have e1 : (((wx (k + 1)).1 : Nat) : Int) = (((wx k).2 : Nat) : Int) := rfl
   have e2 : (((wx (k + 1)).2 : Nat) : Int) = (2 * (((wx k).1 : Nat) : Int) + 3 * (((wx k).2 : Nat) : Int)) % 5 := by
    show (((2 * (wx k).1 + 3 * (wx k).2) % 5 : Nat) : Int) = _
    omega
   have HN := hid (next_ret _ _ ⟨Int.natCast_nonneg (wx k).1, by omega⟩ ⟨Int.natCast_nonneg (wx k).2, by omega⟩)
   have HE := hid (And.intro e1 e2)
   have HL := hid hL
   have HZ := hid hsz
   clear hx hy5 e1 e2 hL hsz
   have t0 : 0 ≤ (((k + 1) * (k + 2) / 2 : Nat) : Int) := Int.natCast_nonneg _
   have t1 : (((k + 1) * (k + 2) / 2 : Nat) : Int) < 1000 := by
    have : (k + 1) * (k + 2) ≤ 25 * 26 := Nat.mul_le_mul (by omega) (by omega)
    omega
   generalize (((k + 1) * (k + 2) / 2 : Nat) : Int) = tr at *
   gi_wp2
   refine hR.mono ?_
   rintro e W3 (⟨rfl, hJ3, hk3⟩ | ⟨rfl, hJx3⟩)
   ·have L3 := HL.out.kc hk3 hwW
    have d0 := L3.cell 0 _ rfl
    have d1 := L3.cell 1 _ rfl
    have HJ3 := hid hJ3
    clear c0 c1 hJ3 hk3
    gi_wp2_with fail
    refine ⟨trivial, (callsIn_free free_wide (HN.out _)).mono ?_⟩
    rintro e W4 ⟨rfl, q⟩
    have L4 := L3.later q
    have J4 := hid (HJA.out _ _ _ HJ3.out (q.mono (by have := L3.lt; omega)))
    have f0 := L4.frozen 0
    have f1 := L4.frozen 1
    have g0 := L4.cell 0 _ rfl
    have g1 := L4.cell 1 _ rfl
    have HL4 := hid L4
    clear d0 d1 L3 L4 q
    gi_wp2
    go_roundw
    case rel =>
     refine ⟨k + 1, by omega, by simp, HJA.out _ _ _ J4.out (((Below.refl W.heap.size W4).setCell (Nat.le_refl _) _).setCell (Nat.le_refl _) _), ?_, by have := HL4.out.lt; simp; omega⟩
     rw [HE.out.1, HE.out.2]
     exact (HL4.out.set 0 _).set 1 _
    case measure => simp [intOf]; omega
   ·gi_wp2
    refine bodyPost_ret (results_none rfl _ _ _) rfl ?_
    exact ⟨⟨_, rfl⟩, .inr ⟨k, hlt, hJx3⟩⟩
  ·obtain rfl : k = 24 := by omega
   gi_wp2
   go_end0
   exact ⟨⟨_, rfl⟩, .inl hJs⟩
end
section
open Go Go.RowKit Go.Shelf
attribute [local go_sem] Oper.semAt_some Grows wide_fn field0
theorem one_luC (n : Nat) (A : Nat → Nat) : (luC n A).all (·.oneCell') = true := by
 rw [Array.all_eq_true]
 intro i hi
 simp [luC, Value.oneCell']
theorem info25 : (Tryz.prog.info? 112).map (·.size) = some 25 := by kernel_rfl
theorem Has.rowK {W : World} {B : Nat} {t : TypeId} {cs cs' : Array Value} (h : Has W B t cs) : Has (W.setRow B cs') B t cs' := by
 obtain ⟨hlt, he⟩ := Array.getElem?_eq_some_iff.1 h
 show (W.heap.modify B _)[B]? = _
 rw [Array.getElem?_eq_getElem (by rw [Array.size_modify]; exact hlt), Array.getElem_modify_self, he]
theorem setRow_other {W : World} {B b : Nat} {cs : Array Value} (h : b ≠ B) : (W.setRow B cs).heap[b]? = W.heap[b]? := by
 show (W.heap.modify B _)[b]? = _
 rw [Array.getElem?_modify, if_neg (fun e => h e.symm)]
theorem below_row {w W : World} {n : Nat} (h : Below n w W) {B : Nat} (hB : n ≤ B) (cs : Array Value) : Below n w (W.setRow B cs) :=
 ⟨h.os, h.tape, h.output, by show _ ≤ (W.heap.modify B _).size; rw [Array.size_modify]; exact h.size, fun k hk => (setRow_other (by omega)).trans (h.block k hk)⟩
theorem wpListIn_storeB {F : Fence} {n : Nat} {ops : Array Oper} {Q : Exit → Act → World → Prop} {a : Act} {w : World} {rest : List Oper} {o : Oper} (hF : Free F) (hg : o.guard = none) (ty : TypeId) (x y : Operand) (ho : o.op = .store ty x y) (B : Nat) (cells : Array Value)
  (hx : a.eval x = .pointer (some ⟨B, 0, none⟩)) (hy : a.eval y = .agg cells) (t : TypeId) (old : Array Value) (hh : Has w B t old) (hi : (Tryz.prog.info? ty).map (·.size) = some cells.size) (hold : old.size = cells.size) (h1 : cells.all (·.oneCell') = true)
  (h : wpListIn F n Tryz.prog ops Q rest (a.put o.dst undef) (w.setRow B cells)) : wpListIn F n Tryz.prog ops Q (o :: rest) a w :=
 wpListIn_plain hg fun K hK => by
  unfold Oper.wpIn
  refine ⟨fun f _ => hF.fn f, ?_⟩
  rw [Oper.semAt_eq _ _ _ (by intro c; rw [ho]; simp)]
  unfold execOp
  simp only [ho, hx, hy, Instr.storeAt, Instr.sureAddr, Sem.run_bind, Sem.run_pure, Result.andThen_ok, run_storeVar_row w B t ty old cells hh hi hold h1]
  exact hK _ _ h
theorem wpListIn_loadB {F : Fence} {n : Nat} {ops : Array Oper} {Q : Exit → Act → World → Prop} {a : Act} {w : World} {rest : List Oper} {o : Oper} (hF : Free F) (hg : o.guard = none) (ty : TypeId) (x : Operand) (ho : o.op = .load ty x) (B : Nat) (hx : a.eval x = .pointer (some ⟨B, 0, none⟩)) (cs : Array Value) (hr : (loadVar ty ⟨B, 0, none⟩).run Tryz.prog w = .ok (.agg cs) w)
  (h : wpListIn F n Tryz.prog ops Q rest (a.put o.dst (.agg cs)) w) : wpListIn F n Tryz.prog ops Q (o :: rest) a w :=
 wpListIn_plain hg fun K hK => by
  unfold Oper.wpIn
  refine ⟨fun f _ => hF.fn f, ?_⟩
  rw [Oper.semAt_eq _ _ _ (by intro c; rw [ho]; simp)]
  unfold execOp
  simp only [ho, hx, Instr.loadAt, Instr.sureAddr, Sem.run_bind, Sem.run_pure, Result.andThen_ok, hr]
  exact hK _ _ h
theorem load25 {W : World} {B : Nat} {A : Nat → Nat} (h : Has W B 112 (luC 25 A)) : (loadVar 112 ⟨B, 0, none⟩).run Tryz.prog W = .ok (.agg (luC 25 A)) W :=
 run_loadVar_row _ _ _ _ _ (0, 0) _ h Tryz.underlying112 rfl (by rw [luC_size]; exact info25)
theorem infoL (A : Nat → Nat) : (Tryz.prog.info? 112).map (·.size) = some (luC 25 A).size := by rw [luC_size]; exact info25
structure TuSt (w : World) (B : Nat) (A M : Nat → Nat) (W : World) : Prop where
 A : Has W B 112 (luC 25 A)
 P : Has W w.heap.size 118 #[.pointer (some ⟨B, 0, none⟩)]
 R : Has W (w.heap.size + 1) 112 (luC 25 fun _ => 0)
 M : Has W (w.heap.size + 1 + 1) 112 (luC 25 M)
 Q : Below w.heap.size w W
theorem TuSt.own (w : World) (B n : Nat) (hn : w.heap.size ≤ n) (A : Nat → Nat) (M : Nat → Nat → Nat) : OwnFrom n (fun (k : Nat) W => TuSt w B A (M k) W) := fun s X Y row hs hg hr =>
 ⟨hs.A.grown hg (fun r e => (hr r e).2), hs.P.grown hg (fun r e => (hr r e).2), hs.R.grown hg (fun r e => (hr r e).2), hs.M.grown hg (fun r e => (hr r e).2),
  ⟨hg.os.trans hs.Q.os, hg.tape.trans hs.Q.tape, hg.output.trans hs.Q.output, Nat.le_trans hs.Q.size hg.size, fun k hk => (hg.block k (Nat.lt_of_lt_of_le hk hs.Q.size) (fun e => by have := (hr k e.symm).1; omega)).trans (hs.Q.block k hk)⟩⟩
theorem TuSt.below {w : World} {B n : Nat} (hn : w.heap.size + 1 + 1 < n) (hB : B < w.heap.size) {A M : Nat → Nat} {W X : World} (h : TuSt w B A M W) (hb : Below n W X) : TuSt w B A M X :=
 ⟨h.A.below hb (by omega), h.P.below hb (by omega), h.R.below hb (by omega), h.M.below hb (by omega), h.Q.trans (hb.mono (by omega))⟩
theorem TuSt.later {w : World} {B : Nat} {A M : Nat → Nat} {W X : World} (h : TuSt w B A M W) (hb : Below W.heap.size W X) : TuSt w B A M X :=
 ⟨h.A.later hb, h.P.later hb, h.R.later hb, h.M.later hb, h.Q.trans (hb.mono h.Q.size)⟩
theorem TuSt.put {w : World} {B : Nat} {A M M' : Nat → Nat} {W : World} (h : TuSt w B A M W) (hB : B < w.heap.size) (j v : Nat) (hM : ∀ i, i < 25 → M' i = if i = j then v else M i) :
  TuSt w B A M' (W.setCell ⟨w.heap.size + 1 + 1, j, none⟩ (.int .u64 ((v : Nat) : Int))) :=
 ⟨h.A.other (by simp; omega) _, h.P.other (by simp; omega) _, h.R.other (by simp) _, by have := h.M.set j (.int .u64 ((v : Nat) : Int)); rwa [luC_set 25 M M' j v hM] at this, h.Q.setCell (by simp; omega) _⟩
theorem wl_lt (k : Nat) : wl k < 25 := by have := wx_lt k; unfold wl; omega
theorem turned_calls (B : Nat) (A : Nat → Nat) (hA : ∀ j, A j < 2 ^ 64) (w : World) (hB : Has w B 112 (luC 25 A)) :
  Calls Tryz.prog 106 #[.pointer (some ⟨B, 0, none⟩)] w fun e w' => e = .returned (.agg (luC 25 (turnK A 24))) ∧ Below w.heap.size w w' := by
 have hBl := hB.lt
 have hmx : Tryz.prog.follows .mixedOrders = true := by kernel_rfl
 refine (callsIn_wide (n := 8)).1 ?_
 refine callsIn_of_wp_marks Tryz.func106 rfl trivial ?_ rfl
 simp only [Tryz.ntmps106, List.size_toArray, List.length_cons, List.length_nil, Nat.reduceAdd, Nat.reduceSub, Array.replicate_succ, Array.replicate_zero, List.push_toArray, List.append_toArray, List.nil_append, List.cons_append]
 have kA := ((hB.alloc (.cells #[.pointer (some ⟨B, 0, none⟩)] 118)).alloc (.cells #[.int .u64 0, .int .u64 0, .int .u64 0, .int .u64 0, .int .u64 0, .int .u64 0, .int .u64 0, .int .u64 0, .int .u64 0, .int .u64 0, .int .u64 0, .int .u64 0, .int .u64 0, .int .u64 0, .int .u64 0, .int .u64 0, .int .u64 0, .int .u64 0, .int .u64 0, .int .u64 0, .int .u64 0, .int .u64 0, .int .u64 0, .int .u64 0, .int .u64 0] 112)).cell 0 _ (luC_get 25 A 0 (by omega))
 have kP := ((Has.new w 118 #[.pointer (some ⟨B, 0, none⟩)]).alloc (.cells #[.int .u64 0, .int .u64 0, .int .u64 0, .int .u64 0, .int .u64 0, .int .u64 0, .int .u64 0, .int .u64 0, .int .u64 0, .int .u64 0, .int .u64 0, .int .u64 0, .int .u64 0, .int .u64 0, .int .u64 0, .int .u64 0, .int .u64 0, .int .u64 0, .int .u64 0, .int .u64 0, .int .u64 0, .int .u64 0, .int .u64 0, .int .u64 0, .int .u64 0] 112)).cell 0 _ rfl
 have LM := Has.new ((w.alloc (.cells #[.pointer (some ⟨B, 0, none⟩)] 118)).alloc (.cells #[.int .u64 0, .int .u64 0, .int .u64 0, .int .u64 0, .int .u64 0, .int .u64 0, .int .u64 0, .int .u64 0, .int .u64 0, .int .u64 0, .int .u64 0, .int .u64 0, .int .u64 0, .int .u64 0, .int .u64 0, .int .u64 0, .int .u64 0, .int .u64 0, .int .u64 0, .int .u64 0, .int .u64 0, .int .u64 0, .int .u64 0, .int .u64 0, .int .u64 0] 112)) 112 #[.int .u64 0, .int .u64 0, .int .u64 0, .int .u64 0, .int .u64 0, .int .u64 0, .int .u64 0, .int .u64 0, .int .u64 0, .int .u64 0, .int .u64 0, .int .u64 0, .int .u64 0, .int .u64 0, .int .u64 0, .int .u64 0, .int .u64 0, .int .u64 0, .int .u64 0, .int .u64 0, .int .u64 0, .int .u64 0, .int .u64 0, .int .u64 0, .int .u64 0]
 simp only [World.size_alloc] at LM
 have HM := hid LM
 have H1 := hid (one_luC 25 (turnK A 0))
 clear LM
 gi_wp2_with (refine wpListIn_storeB free_wide rfl _ _ _ rfl (w.heap.size + 1 + 1) #[.int .u64 ((A 0 : Nat) : Int), .int .u64 0, .int .u64 0, .int .u64 0, .int .u64 0, .int .u64 0, .int .u64 0, .int .u64 0, .int .u64 0, .int .u64 0, .int .u64 0, .int .u64 0, .int .u64 0, .int .u64 0, .int .u64 0, .int .u64 0, .int .u64 0, .int .u64 0, .int .u64 0, .int .u64 0, .int .u64 0, .int .u64 0, .int .u64 0, .int .u64 0, .int .u64 0] rfl rfl _ #[.int .u64 0, .int .u64 0, .int .u64 0, .int .u64 0, .int .u64 0, .int .u64 0, .int .u64 0, .int .u64 0, .int .u64 0, .int .u64 0, .int .u64 0, .int .u64 0, .int .u64 0, .int .u64 0, .int .u64 0, .int .u64 0, .int .u64 0, .int .u64 0, .int .u64 0, .int .u64 0, .int .u64 0, .int .u64 0, .int .u64 0, .int .u64 0, .int .u64 0] HM.out info25 rfl H1.out ?_)
 have hI0 : TuSt w B A (turnK A 0) (((((w.alloc (.cells #[.pointer (some ⟨B, 0, none⟩)] 118)).alloc (.cells #[.int .u64 0, .int .u64 0, .int .u64 0, .int .u64 0, .int .u64 0, .int .u64 0, .int .u64 0, .int .u64 0, .int .u64 0, .int .u64 0, .int .u64 0, .int .u64 0, .int .u64 0, .int .u64 0, .int .u64 0, .int .u64 0, .int .u64 0, .int .u64 0, .int .u64 0, .int .u64 0, .int .u64 0, .int .u64 0, .int .u64 0, .int .u64 0, .int .u64 0] 112)).alloc (.cells #[.int .u64 0, .int .u64 0, .int .u64 0, .int .u64 0, .int .u64 0, .int .u64 0, .int .u64 0, .int .u64 0, .int .u64 0, .int .u64 0, .int .u64 0, .int .u64 0, .int .u64 0, .int .u64 0, .int .u64 0, .int .u64 0, .int .u64 0, .int .u64 0, .int .u64 0, .int .u64 0, .int .u64 0, .int .u64 0, .int .u64 0, .int .u64 0, .int .u64 0] 112))).setRow (w.heap.size + 1 + 1) #[.int .u64 ((A 0 : Nat) : Int), .int .u64 0, .int .u64 0, .int .u64 0, .int .u64 0, .int .u64 0, .int .u64 0, .int .u64 0, .int .u64 0, .int .u64 0, .int .u64 0, .int .u64 0, .int .u64 0, .int .u64 0, .int .u64 0, .int .u64 0, .int .u64 0, .int .u64 0, .int .u64 0, .int .u64 0, .int .u64 0, .int .u64 0, .int .u64 0, .int .u64 0, .int .u64 0]) := by
  have L1 := ((hB.alloc (.cells #[.pointer (some ⟨B, 0, none⟩)] 118)).alloc (.cells #[.int .u64 0, .int .u64 0, .int .u64 0, .int .u64 0, .int .u64 0, .int .u64 0, .int .u64 0, .int .u64 0, .int .u64 0, .int .u64 0, .int .u64 0, .int .u64 0, .int .u64 0, .int .u64 0, .int .u64 0, .int .u64 0, .int .u64 0, .int .u64 0, .int .u64 0, .int .u64 0, .int .u64 0, .int .u64 0, .int .u64 0, .int .u64 0, .int .u64 0] 112)).alloc (.cells #[.int .u64 0, .int .u64 0, .int .u64 0, .int .u64 0, .int .u64 0, .int .u64 0, .int .u64 0, .int .u64 0, .int .u64 0, .int .u64 0, .int .u64 0, .int .u64 0, .int .u64 0, .int .u64 0, .int .u64 0, .int .u64 0, .int .u64 0, .int .u64 0, .int .u64 0, .int .u64 0, .int .u64 0, .int .u64 0, .int .u64 0, .int .u64 0, .int .u64 0] 112)
  have L2 := ((Has.new w 118 #[.pointer (some ⟨B, 0, none⟩)]).alloc (.cells #[.int .u64 0, .int .u64 0, .int .u64 0, .int .u64 0, .int .u64 0, .int .u64 0, .int .u64 0, .int .u64 0, .int .u64 0, .int .u64 0, .int .u64 0, .int .u64 0, .int .u64 0, .int .u64 0, .int .u64 0, .int .u64 0, .int .u64 0, .int .u64 0, .int .u64 0, .int .u64 0, .int .u64 0, .int .u64 0, .int .u64 0, .int .u64 0, .int .u64 0] 112)).alloc (.cells #[.int .u64 0, .int .u64 0, .int .u64 0, .int .u64 0, .int .u64 0, .int .u64 0, .int .u64 0, .int .u64 0, .int .u64 0, .int .u64 0, .int .u64 0, .int .u64 0, .int .u64 0, .int .u64 0, .int .u64 0, .int .u64 0, .int .u64 0, .int .u64 0, .int .u64 0, .int .u64 0, .int .u64 0, .int .u64 0, .int .u64 0, .int .u64 0, .int .u64 0] 112)
  have L3 := (Has.new (w.alloc (.cells #[.pointer (some ⟨B, 0, none⟩)] 118)) 112 #[.int .u64 0, .int .u64 0, .int .u64 0, .int .u64 0, .int .u64 0, .int .u64 0, .int .u64 0, .int .u64 0, .int .u64 0, .int .u64 0, .int .u64 0, .int .u64 0, .int .u64 0, .int .u64 0, .int .u64 0, .int .u64 0, .int .u64 0, .int .u64 0, .int .u64 0, .int .u64 0, .int .u64 0, .int .u64 0, .int .u64 0, .int .u64 0, .int .u64 0]).alloc (.cells #[.int .u64 0, .int .u64 0, .int .u64 0, .int .u64 0, .int .u64 0, .int .u64 0, .int .u64 0, .int .u64 0, .int .u64 0, .int .u64 0, .int .u64 0, .int .u64 0, .int .u64 0, .int .u64 0, .int .u64 0, .int .u64 0, .int .u64 0, .int .u64 0, .int .u64 0, .int .u64 0, .int .u64 0, .int .u64 0, .int .u64 0, .int .u64 0, .int .u64 0] 112)
  simp only [World.size_alloc] at L3
  have Q := ((newA w (.cells #[.pointer (some ⟨B, 0, none⟩)] 118)).alloc (by simp) (.cells #[.int .u64 0, .int .u64 0, .int .u64 0, .int .u64 0, .int .u64 0, .int .u64 0, .int .u64 0, .int .u64 0, .int .u64 0, .int .u64 0, .int .u64 0, .int .u64 0, .int .u64 0, .int .u64 0, .int .u64 0, .int .u64 0, .int .u64 0, .int .u64 0, .int .u64 0, .int .u64 0, .int .u64 0, .int .u64 0, .int .u64 0, .int .u64 0, .int .u64 0] 112)).alloc (by simp; omega) (.cells #[.int .u64 0, .int .u64 0, .int .u64 0, .int .u64 0, .int .u64 0, .int .u64 0, .int .u64 0, .int .u64 0, .int .u64 0, .int .u64 0, .int .u64 0, .int .u64 0, .int .u64 0, .int .u64 0, .int .u64 0, .int .u64 0, .int .u64 0, .int .u64 0, .int .u64 0, .int .u64 0, .int .u64 0, .int .u64 0, .int .u64 0, .int .u64 0, .int .u64 0] 112)
  exact ⟨(setRow_other (by omega)).trans L1, (setRow_other (by omega)).trans L2, (setRow_other (by omega)).trans L3, HM.out.rowK, below_row Q (by omega) _⟩
 obtain ⟨W0, hW0⟩ : ∃ W0, (((((w.alloc (.cells #[.pointer (some ⟨B, 0, none⟩)] 118)).alloc (.cells #[.int .u64 0, .int .u64 0, .int .u64 0, .int .u64 0, .int .u64 0, .int .u64 0, .int .u64 0, .int .u64 0, .int .u64 0, .int .u64 0, .int .u64 0, .int .u64 0, .int .u64 0, .int .u64 0, .int .u64 0, .int .u64 0, .int .u64 0, .int .u64 0, .int .u64 0, .int .u64 0, .int .u64 0, .int .u64 0, .int .u64 0, .int .u64 0, .int .u64 0] 112)).alloc (.cells #[.int .u64 0, .int .u64 0, .int .u64 0, .int .u64 0, .int .u64 0, .int .u64 0, .int .u64 0, .int .u64 0, .int .u64 0, .int .u64 0, .int .u64 0, .int .u64 0, .int .u64 0, .int .u64 0, .int .u64 0, .int .u64 0, .int .u64 0, .int .u64 0, .int .u64 0, .int .u64 0, .int .u64 0, .int .u64 0, .int .u64 0, .int .u64 0, .int .u64 0] 112))).setRow (w.heap.size + 1 + 1) #[.int .u64 ((A 0 : Nat) : Int), .int .u64 0, .int .u64 0, .int .u64 0, .int .u64 0, .int .u64 0, .int .u64 0, .int .u64 0, .int .u64 0, .int .u64 0, .int .u64 0, .int .u64 0, .int .u64 0, .int .u64 0, .int .u64 0, .int .u64 0, .int .u64 0, .int .u64 0, .int .u64 0, .int .u64 0, .int .u64 0, .int .u64 0, .int .u64 0, .int .u64 0, .int .u64 0]) = W0 := ⟨_, rfl⟩
 have hsz : W0.heap.size = w.heap.size + 3 := by rw [← hW0]; unfold World.setRow; simp
 rw [hW0] at hI0 ⊢
 clear hW0 HM H1 kA kP
 simp only [Act.put]
 generalize Value.agg #[.int .u64 ((A 0 : Nat) : Int), .int .u64 0, .int .u64 0, .int .u64 0, .int .u64 0, .int .u64 0, .int .u64 0, .int .u64 0, .int .u64 0, .int .u64 0, .int .u64 0, .int .u64 0, .int .u64 0, .int .u64 0, .int .u64 0, .int .u64 0, .int .u64 0, .int .u64 0, .int .u64 0, .int .u64 0, .int .u64 0, .int .u64 0, .int .u64 0, .int .u64 0, .int .u64 0] = v10
 generalize Value.int .u64 ((A 0 : Nat) : Int) = v9
 refine wpIn_rangeFunc_B rfl (by omega) (gf := 134) (lb := #[]) rfl trivial (enters_of Tryz.func134 (by kernel_rfl) rfl)
  (walk_seq _ (by omega) W0) KC.trans (fun W l o o' hl h1 h2 h3 => KC.put W l o o' hl h1 h2 h3) (fun _ _ => rfl)
  (fun k W => TuSt w B A (turnK A k) W) (fun _ _ _ => False) (TuSt.own w B _ (by omega) A (turnK A)) (fun _ _ _ _ _ hs _ _ => hs)
  (fun s V X hs hb => hs.below (by omega) hBl hb) (fun _ _ _ _ hs _ => hs) hI0
  (fun k a' V => ∃ b, Has V b 162 #[.int .u64 (((wx k).1 : Nat) : Int), .int .u64 (((wx k).2 : Nat) : Int)] ∧ a' = { tmps := #[.pointer (some ⟨B, 0, none⟩), .pointer (some ⟨w.heap.size, 0, none⟩), .pointer (some ⟨w.heap.size + 1, 0, none⟩), .pointer (some ⟨w.heap.size + 1 + 1, 0, none⟩), .int .i64 (((k + 1) * (k + 2) / 2 : Nat) : Int), .pointer (some ⟨b, 0, none⟩), .pointer (some ⟨B, 0, none⟩), .pointer (some ⟨B, 0, none⟩), .pointer (some ⟨B, 0, none⟩), v9, v10, .int .i64 (((k + 1) * (k + 2) / 2 : Nat) : Int), .agg #[.int .u64 (((wx k).1 : Nat) : Int), .int .u64 (((wx k).2 : Nat) : Int)], undef, undef, undef, undef, undef, undef, undef, undef, undef, undef, undef, undef, undef], defers := [] })
  (fun k a' _ X Y row hs hg hr => by obtain ⟨b, hH, e⟩ := hs; exact ⟨b, hH.grown hg (fun r e => (hr r e).2), e⟩) ?assign ?body ?done ?stop
 case assign =>
  intro l k W K hkN hst hK
  unfold wkV
  have HST := hid hst
  clear hst hkN hI0
  have HK := hid hK
  clear hK
  gi_wp2
  exact HK.out _ _ ((KeepsOthers.alloc _ _).from _) (KC.later ((Below.refl _ _).alloc (Nat.le_refl _) _)) (HST.out.later ((Below.refl _ _).alloc (Nat.le_refl _) _)) ⟨_, Has.new _ _ _, rfl⟩
 case body =>
  rintro l k a' W hl hlo hkN hst ⟨b, hH, rfl⟩
  have hx := (wx_lt k).1
  have hy := (wx_lt k).2
  have hx1 := (wx_lt (k + 1)).1
  have hy1 := (wx_lt (k + 1)).2
  have e1 : (((wx (k + 1)).1 : Nat) : Int) = (((wx k).2 : Nat) : Int) := rfl
  have e2 : (((wx (k + 1)).2 : Nat) : Int) = (2 * (((wx k).1 : Nat) : Int) + 3 * (((wx k).2 : Nat) : Int)) % 5 := by
   show (((2 * (wx k).1 + 3 * (wx k).2) % 5 : Nat) : Int) = _
   omega
  have HN : Hid (Ret Tryz.prog 135 #[.agg #[.int .u64 (((wx k).1 : Nat) : Int), .int .u64 (((wx k).2 : Nat) : Int)]] (.agg #[.int .u64 (((wx (k + 1)).1 : Nat) : Int), .int .u64 (((wx (k + 1)).2 : Nat) : Int)])) := hid ((next_ret _ _ ⟨Int.natCast_nonneg (wx k).1, by omega⟩ ⟨Int.natCast_nonneg (wx k).2, by omega⟩).of_eq rfl (by rw [e1, e2]))
  have HL : Hid (Ret Tryz.prog 131 #[.agg #[.int .u64 (((wx k).1 : Nat) : Int), .int .u64 (((wx k).2 : Nat) : Int)]] (.int .u64 ((wl k : Nat) : Int))) := hid ((lane_ret _ _ ⟨Int.natCast_nonneg (wx k).1, by omega⟩ ⟨Int.natCast_nonneg (wx k).2, by omega⟩).of_eq rfl (by unfold wl; congr 1))
  have HL1 : Hid (Ret Tryz.prog 131 #[.agg #[.int .u64 (((wx (k + 1)).1 : Nat) : Int), .int .u64 (((wx (k + 1)).2 : Nat) : Int)]] (.int .u64 ((wl (k + 1) : Nat) : Int))) := hid ((lane_ret _ _ ⟨Int.natCast_nonneg (wx (k + 1)).1, by omega⟩ ⟨Int.natCast_nonneg (wx (k + 1)).2, by omega⟩).of_eq rfl (by unfold wl; congr 1))
  have ht : (k + 1) * (k + 2) / 2 < 1000 := by
   have : (k + 1) * (k + 2) ≤ 25 * 26 := Nat.mul_le_mul (by omega) (by omega)
   omega
  have HR := hid (rot_ret (A (wl k)) ((k + 1) * (k + 2) / 2) (hA _) (by omega))
  have hS' : ∀ i, i < 25 → turnK A (k + 1) i = if i = wl (k + 1) then rotl (A (wl k)) ((k + 1) * (k + 2) / 2 % 64) else turnK A k i := fun i _ => rfl
  have hl0 := wl_lt k
  have hl1 := wl_lt (k + 1)
  have kb0 : ∀ x : Ext W, x.w.cell? ⟨b, 0, none⟩ = some (.int .u64 (((wx k).1 : Nat) : Int)) := fun x => (hH.later x.below).cell 0 _ rfl
  have kb1 : ∀ x : Ext W, x.w.cell? ⟨b, 1, none⟩ = some (.int .u64 (((wx k).2 : Nat) : Int)) := fun x => (hH.later x.below).cell 1 _ rfl
  have kM : ∀ x : Ext W, x.w.cell? ⟨w.heap.size + 1 + 1, wl (k + 1), none⟩ = some (.int .u64 ((turnK A k (wl (k + 1)) : Nat) : Int)) := fun x => (hst.M.later x.below).cell _ _ (luC_get 25 _ _ hl1)
  have kA : ∀ x : Ext W, x.w.cell? ⟨B, wl k, none⟩ = some (.int .u64 ((A (wl k) : Nat) : Int)) := fun x => (hst.A.later x.below).cell _ _ (luC_get 25 _ _ hl0)
  have kP : ∀ x : Ext W, x.w.cell? ⟨w.heap.size, 0, none⟩ = some (.pointer (some ⟨B, 0, none⟩)) := fun x => (hst.P.later x.below).cell 0 _ rfl
  have kz : ∀ x : Ext W, x.w.frozen? ⟨w.heap.size + 1 + 1, wl (k + 1), none⟩ = false := fun x => (hst.M.later x.below).frozen _
  have HW : Hid (w.heap.size + 1 + 1 < W0.heap.size) := hid (by omega)
  generalize rotl (A (wl k)) ((k + 1) * (k + 2) / 2 % 64) = r at *
  generalize turnK A k (wl (k + 1)) = m0 at *
  generalize A (wl k) = ak at *
  generalize (k + 1) * (k + 2) / 2 = tr at *
  clear e1 e2 hx hy hx1 hy1
  have HST := hid hst
  have HS' := hid hS'
  clear hst hH hS' hkN hI0
  generalize wl (k + 1) = l1 at *
  generalize wl k = l0 at *
  generalize (((wx (k + 1)).1 : Nat) : Int) = nx at *
  generalize (((wx (k + 1)).2 : Nat) : Int) = ny at *
  generalize (((wx k).1 : Nat) : Int) = px at *
  generalize (((wx k).2 : Nat) : Int) = py at *
  have hl0I : (l0 : Int) < 25 := by omega
  have hl1I : (l1 : Int) < 25 := by omega
  have htI : (tr : Int) < 1000 := by omega
  clear hl0 hl1 ht
  gi_wp2_with fail
  refine wpIn_region_mix (C := Grows W) (free_round l) [some true, some true, some true, some true, some true, some true, some true, some true, some true, some true, some true, some true, none] hmx (by kernel_rfl) (by kernel_rfl) (grows_refl W) ?_
  simp only [headOf, tailOf]
  repeat (go_big_quiet_step (first | (with_reducible exact Ret.at HL.out _) | (with_reducible exact Ret.at HN.out _) | (with_reducible exact Ret.at HL1.out _) | (with_reducible exact Ret.at HR.out _)))
  refine wpQuiet_nil ?_
  rintro _ ⟨x, rfl⟩
  have H2 := hid ((HST.out.later x.below).put hBl l1 r HS'.out)
  have HKP := hid (x.keeps W0.heap.size)
  have HKC : Hid (KC W0.heap.size W x.w) := hid (KC.later x.below)
  have kz' := kz x
  have kM' := kM x
  clear kz kM kA kP kb0 kb1
  go_wp2
  rw [calmPost_normal]
  gi_wp2
  exact ⟨HKP.out.trans ((KeepsOthers.setCell _ _ _).from _), HKC.out.trans (KC.set _ HW.out _), H2.out⟩
 case done =>
  rintro D W hD hst hK
  have hDR : D ≠ w.heap.size + 1 := by omega
  have HM := hid (load25 hst.M)
  have HRR := hid hst.R
  have hQ := below_row (B := w.heap.size + 1) hst.Q (by omega) (luC 25 (turnK A 24))
  have hR2 : Has (W.setRow (w.heap.size + 1) (luC 25 (turnK A 24))) (w.heap.size + 1) 112 (luC 25 (turnK A 24)) := hst.R.rowK
  have hK2 : (W.setRow (w.heap.size + 1) (luC 25 (turnK A 24))).heap[D]? = some (.deferred (some [])) := (setRow_other hDR).trans hK
  have HQ := hid hQ
  have HR2 := hid hR2
  have HK2 := hid hK2
  have HIL := hid (infoL (turnK A 24))
  have HIO := hid (one_luC 25 (turnK A 24))
  clear hst hK hQ hR2 hK2 hI0
  gi_wp2_with (first | (refine wpListIn_loadB free_wide rfl _ _ rfl (w.heap.size + 1 + 1) rfl _ HM.out ?_) | (refine wpListIn_storeB free_wide rfl _ _ _ rfl (w.heap.size + 1) (luC 25 (turnK A 24)) rfl rfl _ _ HRR.out HIL.out (by rw [luC_size, luC_size]) HIO.out ?_))
  have R6 : Has ((W.setRow (w.heap.size + 1) (luC 25 (turnK A 24))).putObj D (.deferred none)) (w.heap.size + 1) 112 (luC 25 (turnK A 24)) := (World.putObj_heap_other (fun e => hDR e.symm)).trans HR2.out
  have Q6 : Below w.heap.size w ((W.setRow (w.heap.size + 1) (luC 25 (turnK A 24))).putObj D (.deferred none)) := HQ.out.trans (belowK_b (w := w) (Nat.le_refl _) _ D _ _ (by omega) HK2.out rfl rfl)
  refine ⟨by simp, .inl ⟨_, _, rfl, run_takeDeferred HK2.out, ?_⟩⟩
  exact ⟨_, results_cell_row rfl _ _ (w.heap.size + 1) _ _ (0, 0) _ rfl R6 Tryz.underlying112 rfl (infoL _), rfl, Q6⟩
 case stop =>
  rintro D c k W _ _ h _
  exact h.elim
theorem bits_andNot_i (a b : Nat) (ha : a < 2 ^ 64) (hb : b < 2 ^ 64) : bits .andNot .u64 (a : Int) (b : Int) = ((a &&& (18446744073709551615 ^^^ b) : Nat) : Int) := by
 have hx : a &&& (18446744073709551615 ^^^ b) < 2 ^ 64 := Nat.and_lt_two_pow _ (Nat.xor_lt_two_pow (by decide) hb)
 have h1 : (BitVec.ofInt 64 (a : Int)).toNat = a := by
  rw [BitVec.ofInt_natCast, BitVec.toNat_ofNat]; exact Nat.mod_eq_of_lt ha
 have h2 : (BitVec.ofInt 64 (b : Int)).toNat = b := by
  rw [BitVec.ofInt_natCast, BitVec.toNat_ofNat]; exact Nat.mod_eq_of_lt hb
 show IntKind.u64.wrap ((BitVec.ofInt 64 (a : Int) &&& ~~~BitVec.ofInt 64 (b : Int)).toNat : Int) = _
 rw [BitVec.not_def, BitVec.toNat_and, BitVec.toNat_xor, BitVec.toNat_allOnes, h1, h2, IntKind.wrap_u64]
 rw [show (2 : Nat) ^ 64 - 1 = 18446744073709551615 from rfl]
 omega
theorem plane2_ret (k on : Nat) (hk : k < 25) : Ret Tryz.prog 131 #[.agg #[.int .u64 (((k % 5 + on) % 5 : Nat) : Int), .int .u64 ((k / 5 : Nat) : Int)]] (.int .u64 ((5 * (k / 5) + (k % 5 + on) % 5 : Nat) : Int)) :=
 (lane_ret _ _ ⟨by omega, by omega⟩ ⟨by omega, by omega⟩).of_eq rfl (by congr 1)
def mixK (A : Nat → Nat) (k j : Nat) : Nat := if j < k then mixN A j else 0
theorem mixed_calls (B : Nat) (A : Nat → Nat) (hA : ∀ j, A j < 2 ^ 64) (w : World) (hB : Has w B 112 (luC 25 A)) :
  Calls Tryz.prog 107 #[.pointer (some ⟨B, 0, none⟩)] w fun e w' => e = .returned (.agg (luC 25 (mixN A))) ∧ Below w.heap.size w w' := by
 have hBl := hB.lt
 have hmx : Tryz.prog.follows .mixedOrders = true := by kernel_rfl
 refine (callsIn_wide (n := 8)).1 ?_
 refine callsIn_of_wp_marks Tryz.func107 rfl trivial ?_ rfl
 simp only [Tryz.ntmps107, List.size_toArray, List.length_cons, List.length_nil, Nat.reduceAdd, Nat.reduceSub, Array.replicate_succ, Array.replicate_zero, List.push_toArray, List.append_toArray, List.nil_append, List.cons_append]
 gi_wp2
 have hI0 : TuSt w B A (mixK A 0) (((w.alloc (.cells #[.pointer (some ⟨B, 0, none⟩)] 118)).alloc (.cells #[.int .u64 0, .int .u64 0, .int .u64 0, .int .u64 0, .int .u64 0, .int .u64 0, .int .u64 0, .int .u64 0, .int .u64 0, .int .u64 0, .int .u64 0, .int .u64 0, .int .u64 0, .int .u64 0, .int .u64 0, .int .u64 0, .int .u64 0, .int .u64 0, .int .u64 0, .int .u64 0, .int .u64 0, .int .u64 0, .int .u64 0, .int .u64 0, .int .u64 0] 112)).alloc (.cells #[.int .u64 0, .int .u64 0, .int .u64 0, .int .u64 0, .int .u64 0, .int .u64 0, .int .u64 0, .int .u64 0, .int .u64 0, .int .u64 0, .int .u64 0, .int .u64 0, .int .u64 0, .int .u64 0, .int .u64 0, .int .u64 0, .int .u64 0, .int .u64 0, .int .u64 0, .int .u64 0, .int .u64 0, .int .u64 0, .int .u64 0, .int .u64 0, .int .u64 0] 112)) := by
  have L1 := ((hB.alloc (.cells #[.pointer (some ⟨B, 0, none⟩)] 118)).alloc (.cells #[.int .u64 0, .int .u64 0, .int .u64 0, .int .u64 0, .int .u64 0, .int .u64 0, .int .u64 0, .int .u64 0, .int .u64 0, .int .u64 0, .int .u64 0, .int .u64 0, .int .u64 0, .int .u64 0, .int .u64 0, .int .u64 0, .int .u64 0, .int .u64 0, .int .u64 0, .int .u64 0, .int .u64 0, .int .u64 0, .int .u64 0, .int .u64 0, .int .u64 0] 112)).alloc (.cells #[.int .u64 0, .int .u64 0, .int .u64 0, .int .u64 0, .int .u64 0, .int .u64 0, .int .u64 0, .int .u64 0, .int .u64 0, .int .u64 0, .int .u64 0, .int .u64 0, .int .u64 0, .int .u64 0, .int .u64 0, .int .u64 0, .int .u64 0, .int .u64 0, .int .u64 0, .int .u64 0, .int .u64 0, .int .u64 0, .int .u64 0, .int .u64 0, .int .u64 0] 112)
  have L2 := ((Has.new w 118 #[.pointer (some ⟨B, 0, none⟩)]).alloc (.cells #[.int .u64 0, .int .u64 0, .int .u64 0, .int .u64 0, .int .u64 0, .int .u64 0, .int .u64 0, .int .u64 0, .int .u64 0, .int .u64 0, .int .u64 0, .int .u64 0, .int .u64 0, .int .u64 0, .int .u64 0, .int .u64 0, .int .u64 0, .int .u64 0, .int .u64 0, .int .u64 0, .int .u64 0, .int .u64 0, .int .u64 0, .int .u64 0, .int .u64 0] 112)).alloc (.cells #[.int .u64 0, .int .u64 0, .int .u64 0, .int .u64 0, .int .u64 0, .int .u64 0, .int .u64 0, .int .u64 0, .int .u64 0, .int .u64 0, .int .u64 0, .int .u64 0, .int .u64 0, .int .u64 0, .int .u64 0, .int .u64 0, .int .u64 0, .int .u64 0, .int .u64 0, .int .u64 0, .int .u64 0, .int .u64 0, .int .u64 0, .int .u64 0, .int .u64 0] 112)
  have L3 := (Has.new (w.alloc (.cells #[.pointer (some ⟨B, 0, none⟩)] 118)) 112 #[.int .u64 0, .int .u64 0, .int .u64 0, .int .u64 0, .int .u64 0, .int .u64 0, .int .u64 0, .int .u64 0, .int .u64 0, .int .u64 0, .int .u64 0, .int .u64 0, .int .u64 0, .int .u64 0, .int .u64 0, .int .u64 0, .int .u64 0, .int .u64 0, .int .u64 0, .int .u64 0, .int .u64 0, .int .u64 0, .int .u64 0, .int .u64 0, .int .u64 0]).alloc (.cells #[.int .u64 0, .int .u64 0, .int .u64 0, .int .u64 0, .int .u64 0, .int .u64 0, .int .u64 0, .int .u64 0, .int .u64 0, .int .u64 0, .int .u64 0, .int .u64 0, .int .u64 0, .int .u64 0, .int .u64 0, .int .u64 0, .int .u64 0, .int .u64 0, .int .u64 0, .int .u64 0, .int .u64 0, .int .u64 0, .int .u64 0, .int .u64 0, .int .u64 0] 112)
  have L4 := Has.new ((w.alloc (.cells #[.pointer (some ⟨B, 0, none⟩)] 118)).alloc (.cells #[.int .u64 0, .int .u64 0, .int .u64 0, .int .u64 0, .int .u64 0, .int .u64 0, .int .u64 0, .int .u64 0, .int .u64 0, .int .u64 0, .int .u64 0, .int .u64 0, .int .u64 0, .int .u64 0, .int .u64 0, .int .u64 0, .int .u64 0, .int .u64 0, .int .u64 0, .int .u64 0, .int .u64 0, .int .u64 0, .int .u64 0, .int .u64 0, .int .u64 0] 112)) 112 #[.int .u64 0, .int .u64 0, .int .u64 0, .int .u64 0, .int .u64 0, .int .u64 0, .int .u64 0, .int .u64 0, .int .u64 0, .int .u64 0, .int .u64 0, .int .u64 0, .int .u64 0, .int .u64 0, .int .u64 0, .int .u64 0, .int .u64 0, .int .u64 0, .int .u64 0, .int .u64 0, .int .u64 0, .int .u64 0, .int .u64 0, .int .u64 0, .int .u64 0]
  simp only [World.size_alloc] at L3 L4
  have Q := ((newA w (.cells #[.pointer (some ⟨B, 0, none⟩)] 118)).alloc (by simp) (.cells #[.int .u64 0, .int .u64 0, .int .u64 0, .int .u64 0, .int .u64 0, .int .u64 0, .int .u64 0, .int .u64 0, .int .u64 0, .int .u64 0, .int .u64 0, .int .u64 0, .int .u64 0, .int .u64 0, .int .u64 0, .int .u64 0, .int .u64 0, .int .u64 0, .int .u64 0, .int .u64 0, .int .u64 0, .int .u64 0, .int .u64 0, .int .u64 0, .int .u64 0] 112)).alloc (by simp; omega) (.cells #[.int .u64 0, .int .u64 0, .int .u64 0, .int .u64 0, .int .u64 0, .int .u64 0, .int .u64 0, .int .u64 0, .int .u64 0, .int .u64 0, .int .u64 0, .int .u64 0, .int .u64 0, .int .u64 0, .int .u64 0, .int .u64 0, .int .u64 0, .int .u64 0, .int .u64 0, .int .u64 0, .int .u64 0, .int .u64 0, .int .u64 0, .int .u64 0, .int .u64 0] 112)
  exact ⟨L1, L2, L3, L4, Q⟩
 obtain ⟨W0, hW0⟩ : ∃ W0, (((w.alloc (.cells #[.pointer (some ⟨B, 0, none⟩)] 118)).alloc (.cells #[.int .u64 0, .int .u64 0, .int .u64 0, .int .u64 0, .int .u64 0, .int .u64 0, .int .u64 0, .int .u64 0, .int .u64 0, .int .u64 0, .int .u64 0, .int .u64 0, .int .u64 0, .int .u64 0, .int .u64 0, .int .u64 0, .int .u64 0, .int .u64 0, .int .u64 0, .int .u64 0, .int .u64 0, .int .u64 0, .int .u64 0, .int .u64 0, .int .u64 0] 112)).alloc (.cells #[.int .u64 0, .int .u64 0, .int .u64 0, .int .u64 0, .int .u64 0, .int .u64 0, .int .u64 0, .int .u64 0, .int .u64 0, .int .u64 0, .int .u64 0, .int .u64 0, .int .u64 0, .int .u64 0, .int .u64 0, .int .u64 0, .int .u64 0, .int .u64 0, .int .u64 0, .int .u64 0, .int .u64 0, .int .u64 0, .int .u64 0, .int .u64 0, .int .u64 0] 112)) = W0 := ⟨_, rfl⟩
 have hsz : W0.heap.size = w.heap.size + 3 := by rw [← hW0]; simp
 rw [hW0] at hI0 ⊢
 clear hW0
 refine wpIn_rangeFunc_N rfl (by omega) (gf := 130) (lb := #[]) rfl trivial (enters_of Tryz.func130 (by kernel_rfl) rfl)
  (places_seq _ (by omega) (fun _ _ => True) W0) (fun _ _ => trivial) (fun _ _ _ _ _ _ _ _ => trivial) (fun _ _ => rfl)
  (fun k W => TuSt w B A (mixK A k) W) (fun _ _ _ => False) (TuSt.own w B _ (by omega) A (mixK A)) (fun _ _ _ _ _ hs _ _ => hs) hI0
  (fun k a' V => ∃ b, Has V b 162 #[.int .u64 ((k % 5 : Nat) : Int), .int .u64 ((k / 5 : Nat) : Int)] ∧ a' = { tmps := #[.pointer (some ⟨B, 0, none⟩), .pointer (some ⟨w.heap.size, 0, none⟩), .pointer (some ⟨w.heap.size + 1, 0, none⟩), .pointer (some ⟨w.heap.size + 1 + 1, 0, none⟩), .pointer (some ⟨b, 0, none⟩), .agg #[.int .u64 ((k % 5 : Nat) : Int), .int .u64 ((k / 5 : Nat) : Int)], undef, undef, undef, undef, undef, undef, undef, undef, undef, undef, undef, undef, undef, undef, undef, undef, undef, undef, undef, undef, undef, undef, undef, undef, undef, undef], defers := [] })
  (fun k a' _ X Y row hs hg hr => by obtain ⟨b, hH, e⟩ := hs; exact ⟨b, hH.grown hg (fun r e => (hr r e).2), e⟩) ?assign ?body ?done ?stop
 case assign =>
  intro l k W K hkN hst hK
  rw [plV_eq]
  have HST := hid hst
  clear hst hkN hI0
  have HK := hid hK
  clear hK
  gi_wp2
  exact HK.out _ _ ((KeepsOthers.alloc _ _).from _) trivial (HST.out.later ((Below.refl _ _).alloc (Nat.le_refl _) _)) ⟨_, Has.new _ _ _, rfl⟩
 case body =>
  rintro l k a' W hl hlo hkN hst ⟨b, hH, rfl⟩
  have hi1 : 5 * (k / 5) + (k % 5 + 1) % 5 < 25 := by omega
  have hi2 : 5 * (k / 5) + (k % 5 + 2) % 5 < 25 := by omega
  have hS' : ∀ i, i < 25 → mixK A (k + 1) i = if i = k then mixN A k else mixK A k i := fun i _ => by
   unfold mixK
   by_cases e : i = k
   ·rw [if_pos e, if_pos (by omega), e]
   ·rw [if_neg e]
    by_cases e2 : i < k
    ·rw [if_pos e2, if_pos (by omega)]
    ·rw [if_neg e2, if_neg (by omega)]
  have hA2 := hA (5 * (k / 5) + (k % 5 + 2) % 5)
  have hA1 := hA (5 * (k / 5) + (k % 5 + 1) % 5)
  have hx1 := bits_andNot_i _ _ hA2 hA1
  have hx2 := xor_i (A k) (A (5 * (k / 5) + (k % 5 + 2) % 5) &&& (18446744073709551615 ^^^ A (5 * (k / 5) + (k % 5 + 1) % 5))) (hA k) (Nat.and_lt_two_pow _ (Nat.xor_lt_two_pow (by decide) hA1))
  rw [show A k ^^^ (A (5 * (k / 5) + (k % 5 + 2) % 5) &&& (18446744073709551615 ^^^ A (5 * (k / 5) + (k % 5 + 1) % 5))) = mixN A k from rfl] at hx2
  have HL := hid (plane_ret k hkN)
  have HL2 := hid (plane2_ret k 2 hkN)
  have HL1 := hid (plane2_ret k 1 hkN)
  have HB2 : Hid (Ret Tryz.prog 132 #[.agg #[.int .u64 ((k % 5 : Nat) : Int), .int .u64 ((k / 5 : Nat) : Int)], .int .u64 2] (.agg #[.int .u64 (((k % 5 + 2) % 5 : Nat) : Int), .int .u64 ((k / 5 : Nat) : Int)])) := hid (pbes_ret k 2 (by omega))
  have HB1 : Hid (Ret Tryz.prog 132 #[.agg #[.int .u64 ((k % 5 : Nat) : Int), .int .u64 ((k / 5 : Nat) : Int)], .int .u64 1] (.agg #[.int .u64 (((k % 5 + 1) % 5 : Nat) : Int), .int .u64 ((k / 5 : Nat) : Int)])) := hid (pbes_ret k 1 (by omega))
  have kb0 : ∀ x : Ext W, x.w.cell? ⟨b, 0, none⟩ = some (.int .u64 ((k % 5 : Nat) : Int)) := fun x => (hH.later x.below).cell 0 _ rfl
  have kb1 : ∀ x : Ext W, x.w.cell? ⟨b, 1, none⟩ = some (.int .u64 ((k / 5 : Nat) : Int)) := fun x => (hH.later x.below).cell 1 _ rfl
  have kM : ∀ x : Ext W, x.w.cell? ⟨w.heap.size + 1 + 1, k, none⟩ = some (.int .u64 ((mixK A k k : Nat) : Int)) := fun x => (hst.M.later x.below).cell _ _ (luC_get 25 _ _ hkN)
  have kA0 : ∀ x : Ext W, x.w.cell? ⟨B, k, none⟩ = some (.int .u64 ((A k : Nat) : Int)) := fun x => (hst.A.later x.below).cell _ _ (luC_get 25 _ _ hkN)
  have kA1 : ∀ x : Ext W, x.w.cell? ⟨B, 5 * (k / 5) + (k % 5 + 1) % 5, none⟩ = some (.int .u64 ((A (5 * (k / 5) + (k % 5 + 1) % 5) : Nat) : Int)) := fun x => (hst.A.later x.below).cell _ _ (luC_get 25 _ _ hi1)
  have kA2 : ∀ x : Ext W, x.w.cell? ⟨B, 5 * (k / 5) + (k % 5 + 2) % 5, none⟩ = some (.int .u64 ((A (5 * (k / 5) + (k % 5 + 2) % 5) : Nat) : Int)) := fun x => (hst.A.later x.below).cell _ _ (luC_get 25 _ _ hi2)
  have kP : ∀ x : Ext W, x.w.cell? ⟨w.heap.size, 0, none⟩ = some (.pointer (some ⟨B, 0, none⟩)) := fun x => (hst.P.later x.below).cell 0 _ rfl
  have kz : ∀ x : Ext W, x.w.frozen? ⟨w.heap.size + 1 + 1, k, none⟩ = false := fun x => (hst.M.later x.below).frozen _
  generalize mixN A k = r at *
  generalize mixK A k k = m0 at *
  generalize A (5 * (k / 5) + (k % 5 + 2) % 5) &&& (18446744073709551615 ^^^ A (5 * (k / 5) + (k % 5 + 1) % 5)) = r1 at *
  generalize A (5 * (k / 5) + (k % 5 + 2) % 5) = a2 at *
  generalize A (5 * (k / 5) + (k % 5 + 1) % 5) = a1 at *
  generalize A k = ak at *
  generalize 5 * (k / 5) + (k % 5 + 2) % 5 = i2 at *
  generalize 5 * (k / 5) + (k % 5 + 1) % 5 = i1 at *
  generalize (((k % 5 + 2) % 5 : Nat) : Int) = x2 at *
  generalize (((k % 5 + 1) % 5 : Nat) : Int) = x1 at *
  generalize ((k % 5 : Nat) : Int) = x0 at *
  generalize ((k / 5 : Nat) : Int) = y0 at *
  have hk5I : (k : Int) < 25 := by omega
  have hi1I : (i1 : Int) < 25 := by omega
  have hi2I : (i2 : Int) < 25 := by omega
  have HST := hid hst
  have HS' := hid hS'
  clear hst hH hS' hkN hI0 hi1 hi2 hA1 hA2
  gi_wp2_with fail
  refine wpIn_region_mix (C := Grows W) (free_round l) [some true, some true, some true, some true, some true, some true, some true, some true, some true, some true, some true, some true, some true, some true, some true, some true, some true, some true, some true, some true, some true, some true, some true, some true, some true, none] hmx (by kernel_rfl) (by kernel_rfl) (grows_refl W) ?_
  simp only [headOf, tailOf]
  repeat (go_big_quiet_step (first | (with_reducible exact Ret.at HL.out _) | (with_reducible exact Ret.at HL1.out _) | (with_reducible exact Ret.at HL2.out _) | (with_reducible exact Ret.at HB1.out _) | (with_reducible exact Ret.at HB2.out _)))
  refine wpQuiet_nil ?_
  rintro _ ⟨x, rfl⟩
  have H2 := hid ((HST.out.later x.below).put hBl k r HS'.out)
  have HKP := hid (x.keeps W0.heap.size)
  have kz' := kz x
  have kM' := kM x
  clear kz kM kA0 kA1 kA2 kP kb0 kb1
  go_wp2
  rw [calmPost_normal]
  gi_wp2
  exact ⟨HKP.out.trans ((KeepsOthers.setCell _ _ _).from _), trivial, H2.out⟩
 case done =>
  rintro D W hD hst0 hK
  have hst : TuSt w B A (mixN A) W := ⟨hst0.A, hst0.P, hst0.R, by rw [luC_congr 25 (mixN A) (mixK A 25) (fun j hj => by unfold mixK; rw [if_pos hj])]; exact hst0.M, hst0.Q⟩
  clear hst0
  have hDR : D ≠ w.heap.size + 1 := by omega
  have HM := hid (load25 hst.M)
  have HRR := hid hst.R
  have HQ := hid (below_row (B := w.heap.size + 1) hst.Q (by omega) (luC 25 (mixN A)))
  have HR2 : Hid (Has (W.setRow (w.heap.size + 1) (luC 25 (mixN A))) (w.heap.size + 1) 112 (luC 25 (mixN A))) := hid hst.R.rowK
  have HK2 : Hid ((W.setRow (w.heap.size + 1) (luC 25 (mixN A))).heap[D]? = some (.deferred (some []))) := hid ((setRow_other hDR).trans hK)
  have HIL := hid (infoL (mixN A))
  have HIO := hid (one_luC 25 (mixN A))
  clear hst hK hI0
  gi_wp2_with (first | (refine wpListIn_loadB free_wide rfl _ _ rfl (w.heap.size + 1 + 1) rfl _ HM.out ?_) | (refine wpListIn_storeB free_wide rfl _ _ _ rfl (w.heap.size + 1) (luC 25 (mixN A)) rfl rfl _ _ HRR.out HIL.out (by rw [luC_size, luC_size]) HIO.out ?_))
  have R6 : Has ((W.setRow (w.heap.size + 1) (luC 25 (mixN A))).putObj D (.deferred none)) (w.heap.size + 1) 112 (luC 25 (mixN A)) := (World.putObj_heap_other (fun e => hDR e.symm)).trans HR2.out
  have Q6 : Below w.heap.size w ((W.setRow (w.heap.size + 1) (luC 25 (mixN A))).putObj D (.deferred none)) := HQ.out.trans (belowK_b (w := w) (Nat.le_refl _) _ D _ _ (by omega) HK2.out rfl rfl)
  refine ⟨by simp, .inl ⟨_, _, rfl, run_takeDeferred HK2.out, ?_⟩⟩
  exact ⟨_, results_cell_row rfl _ _ (w.heap.size + 1) _ _ (0, 0) _ rfl R6 Tryz.underlying112 rfl (infoL _), rfl, Q6⟩
 case stop =>
  rintro D c k W _ _ h _
  exact h.elim
structure Tab (W : World) : Prop where
 lt : 0 < W.heap.size
 cell : ∀ i, i < 24 → W.cell? ⟨0, i, none⟩ = some (.int .u64 ((rcL.getD i 0 : Nat) : Int))
theorem Tab.below {W W' : World} {n : Nat} (h : Tab W) (hb : Below n W W') (hn : 0 < n) : Tab W' := ⟨Nat.lt_of_lt_of_le h.lt hb.size, fun i hi => (hb.cell (p := ⟨0, i, none⟩) hn).trans (h.cell i hi)⟩
theorem Tab.later {W W' : World} (h : Tab W) (hb : Below W.heap.size W W') : Tab W' := h.below hb h.lt
theorem Tab.alloc {W : World} (h : Tab W) (o : Obj) : Tab (W.alloc o) := h.later ((Below.refl _ W).alloc (Nat.le_refl _) o)
theorem Tab.other {W : World} (h : Tab W) {p : Addr} (hp : 0 < p.block) (v : Value) : Tab (W.setCell p v) := h.below (n := 1) ((Below.refl 1 W).setCell hp v) (by omega)
theorem Tab.kept {W W' : World} {B : Nat} (h : Tab W) (hg : W.grownBy W' (some B)) (hB : 0 < B) : Tab W' := ⟨Nat.lt_of_lt_of_le h.lt hg.size, fun i hi => (World.cell?_of_block (w := W) (hg.block 0 h.lt (fun e => by cases e; omega))).trans (h.cell i hi)⟩
theorem Tab.row {W : World} {B : Nat} (h : Tab W) (hB : 0 < B) (cs : Array Value) : Tab (W.setRow B cs) := h.below (n := 1) (below_row (Below.refl 1 W) hB cs) (by omega)
theorem below_of_grown {w A X : World} {B : Nat} (h : Below w.heap.size w A) (hg : A.grownBy X (some B)) (hn : w.heap.size ≤ B) : Below w.heap.size w X :=
 ⟨hg.os.trans h.os, hg.tape.trans h.tape, hg.output.trans h.output, Nat.le_trans h.size hg.size, fun k hk => (hg.block k (Nat.lt_of_lt_of_le hk h.size) (fun e => by cases e; omega)).trans (h.block k hk)⟩
def RetT (P : Program) (f : FuncId) (args : Array Value) (v : Value) : Prop := ∀ w, Tab w → Calls P f args w fun e w' => e = .returned v ∧ Below w.heap.size w w'
def rcC : Array Value := (rcL.map fun n => Value.int .u64 ((n : Nat) : Int)).toArray
theorem rcC_size : rcC.size = 24 := rfl
theorem rcC_get (k : Nat) (hk : k < 24) : rcC[k]? = some (.int .u64 ((rcL.getD k 0 : Nat) : Int)) := by
 have hl : k < rcL.length := hk
 unfold rcC
 simp [List.getElem?_map, List.getD_eq_getElem?_getD, List.getElem?_eq_getElem hl]
theorem info24 : (Tryz.prog.info? 135).map (·.size) = some 24 := by kernel_rfl
theorem load24 {W : World} (h : Tab W) : (loadVar 135 ⟨0, 0, none⟩).run Tryz.prog W = .ok (.agg rcC) W := by
 have hl : (loadCells ⟨0, 0, none⟩ rcC.toList.length).run Tryz.prog W = .ok rcC.toList.toArray W :=
  run_loadCells_list (P := Tryz.prog) W ⟨0, 0, none⟩ rcC.toList (fun j v hv => by
   have hadd : (⟨0, 0, none⟩ : Addr).add j = ⟨0, j, none⟩ := by unfold Addr.add; split <;> simp_all
   have hj : j < 24 := by
    rcases Nat.lt_or_ge j 24 with h' | h'
    ·exact h'
    ·rw [List.getElem?_eq_none (show rcC.toList.length ≤ j from h')] at hv; cases hv
   have hg := rcC_get j hj
   rw [Array.getElem?_toList] at hv
   rw [hadd, h.cell j hj, ← hg, hv])
 have hi := info24
 cases hq : Tryz.prog.info? 135 with
 | none => simp [hq] at hi
 | some i =>
  have hs : i.size = 24 := by simpa [hq] using hi
  have hagg : (isAgg 135).run Tryz.prog W = .ok true W := by
   unfold isAgg
   rw [Sem.run_bind, run_underlying Tryz.underlying135 W]
   rfl
  have hl2 : (loadCells ⟨0, 0, none⟩ 24).run Tryz.prog W = .ok rcC W := by simpa [rcC_size] using hl
  simp [loadVar, Sem.run_bind, hagg, sizeOf, typeInfo, hq, hs, hl2]
theorem index24 (k : Nat) (hk : k < 24) (W : World) : (Instr.index 135 (.agg rcC) (.int .i64 (k : Int))).run Tryz.prog W = .ok (.int .u64 ((rcL.getD k 0 : Nat) : Int)) W := by
 have u := Tryz.underlying135
 have a3 := Tryz.isAgg26
 have z3 := Tryz.sizeOf26
 have hg := rcC_get k hk
 have hkI : (k : Int) < 24 := by omega
 unfold Instr.index
 simp only [Sem.run_bind, run_underlying u, Result.andThen_ok]
 simp [go_sem, part, asIntOf, a3, z3, hkI, hg]
theorem wpList_storeB {ops : Array Oper} {Q : Exit → Act → World → Prop} {a : Act} {w : World} {rest : List Oper} {o : Oper} (hg : o.guard = none) (ty : TypeId) (x y : Operand) (ho : o.op = .store ty x y) (B : Nat) (cells : Array Value)
  (hx : a.eval x = .pointer (some ⟨B, 0, none⟩)) (hy : a.eval y = .agg cells) (t : TypeId) (old : Array Value) (hh : Has w B t old) (hi : (Tryz.prog.info? ty).map (·.size) = some cells.size) (hold : old.size = cells.size) (h1 : cells.all (·.oneCell') = true)
  (h : wpList Tryz.prog ops Q rest (a.put o.dst undef) (w.setRow B cells)) : wpList Tryz.prog ops Q (o :: rest) a w :=
 wpList_store_row hg ty x y ho B cells hx hy t old hh hi hold h1 h
theorem wpList_loadB {ops : Array Oper} {Q : Exit → Act → World → Prop} {a : Act} {w : World} {rest : List Oper} {o : Oper} (hg : o.guard = none) (ty : TypeId) (x : Operand) (ho : o.op = .load ty x) (B : Nat) (hx : a.eval x = .pointer (some ⟨B, 0, none⟩)) (cs : Array Value) (hr : (loadVar ty ⟨B, 0, none⟩).run Tryz.prog w = .ok (.agg cs) w)
  (h : wpList Tryz.prog ops Q rest (a.put o.dst (.agg cs)) w) : wpList Tryz.prog ops Q (o :: rest) a w :=
 wpList_plain hg fun K hK => by
  unfold Oper.wp execOp
  simp only [ho, hx, Instr.loadAt, Instr.sureAddr, Sem.run_bind, Sem.run_pure, Result.andThen_ok, hr]
  exact hK _ _ h
theorem permK_succ (A : Nat → Nat) (k : Nat) (hk : k < 24) : permK A (k + 1) = rndN (permK A k) (rcL.getD k 0) := by
 have hl : k < rcL.length := hk
 unfold permK
 rw [List.take_add_one, List.foldl_append, List.getElem?_eq_getElem hl]
 simp [List.getD_eq_getElem?_getD, List.getElem?_eq_getElem hl]
theorem rc_lt (k : Nat) : rcL.getD k 0 < 2 ^ 64 := by
 rcases Nat.lt_or_ge k 24 with h | h
 ·have : ∀ j : Fin 24, rcL.getD j.val 0 < 2 ^ 64 := by decide
  exact this ⟨k, h⟩
 ·rw [List.getD_eq_getElem?_getD, List.getElem?_eq_none (show rcL.length ≤ k from h)]; decide
theorem rndN_lt (A : Nat → Nat) (hA : ∀ j, A j < 2 ^ 64) (c : Nat) (hc : c < 2 ^ 64) (j : Nat) : rndN A c j < 2 ^ 64 := by
 unfold rndN
 have h := mixN_lt _ (turnK_lt _ (thetaN_lt A hA) 24)
 split
 ·exact Nat.xor_lt_two_pow (h 0) hc
 ·exact h j
theorem permK_lt (A : Nat → Nat) (hA : ∀ j, A j < 2 ^ 64) : ∀ k, k ≤ 24 → ∀ j, permK A k j < 2 ^ 64
 | 0, _, j => hA j
 | k + 1, h, j => by rw [permK_succ A k (by omega)]; exact rndN_lt _ (permK_lt A hA k (by omega)) _ (rc_lt k) j
theorem permute_ret (A : Nat → Nat) (hA : ∀ j, A j < 2 ^ 64) : RetT Tryz.prog 79 #[.agg (luC 25 A)] (.agg (luC 25 (permN A))) := by
 intro w HT
 have hw0 := HT.lt
 have HTH := hid theta_calls
 have HTU := hid turned_calls
 have HMI := hid mixed_calls
 have HL := hid (permK_lt A hA)
 have HS := hid (permK_succ A)
 go_enter Tryz.func79, Tryz.ntmps79
 have LA := (Has.new w 112 (luC 25 A)).alloc (.cells #[.int .u64 0, .int .u64 0, .int .u64 0, .int .u64 0, .int .u64 0, .int .u64 0, .int .u64 0, .int .u64 0, .int .u64 0, .int .u64 0, .int .u64 0, .int .u64 0, .int .u64 0, .int .u64 0, .int .u64 0, .int .u64 0, .int .u64 0, .int .u64 0, .int .u64 0, .int .u64 0, .int .u64 0, .int .u64 0, .int .u64 0, .int .u64 0, .int .u64 0] 112)
 have LR := Has.new (w.alloc (.cells (luC 25 A) 112)) 112 #[.int .u64 0, .int .u64 0, .int .u64 0, .int .u64 0, .int .u64 0, .int .u64 0, .int .u64 0, .int .u64 0, .int .u64 0, .int .u64 0, .int .u64 0, .int .u64 0, .int .u64 0, .int .u64 0, .int .u64 0, .int .u64 0, .int .u64 0, .int .u64 0, .int .u64 0, .int .u64 0, .int .u64 0, .int .u64 0, .int .u64 0, .int .u64 0, .int .u64 0]
 simp only [World.size_alloc] at LR
 have HT := (HT.alloc (.cells (luC 25 A) 112)).alloc (.cells #[.int .u64 0, .int .u64 0, .int .u64 0, .int .u64 0, .int .u64 0, .int .u64 0, .int .u64 0, .int .u64 0, .int .u64 0, .int .u64 0, .int .u64 0, .int .u64 0, .int .u64 0, .int .u64 0, .int .u64 0, .int .u64 0, .int .u64 0, .int .u64 0, .int .u64 0, .int .u64 0, .int .u64 0, .int .u64 0, .int .u64 0, .int .u64 0, .int .u64 0] 112)
 have Q := (newA w (.cells (luC 25 A) 112)).alloc (by simp) (.cells #[.int .u64 0, .int .u64 0, .int .u64 0, .int .u64 0, .int .u64 0, .int .u64 0, .int .u64 0, .int .u64 0, .int .u64 0, .int .u64 0, .int .u64 0, .int .u64 0, .int .u64 0, .int .u64 0, .int .u64 0, .int .u64 0, .int .u64 0, .int .u64 0, .int .u64 0, .int .u64 0, .int .u64 0, .int .u64 0, .int .u64 0, .int .u64 0, .int .u64 0] 112)
 have H24 := hid (load24 HT)
 go_wp2_with (refine wpList_loadB rfl _ _ rfl 0 rfl _ H24.out ?_)
 have Z0 : luC 25 (fun _ => 0) = #[.int .u64 0, .int .u64 0, .int .u64 0, .int .u64 0, .int .u64 0, .int .u64 0, .int .u64 0, .int .u64 0, .int .u64 0, .int .u64 0, .int .u64 0, .int .u64 0, .int .u64 0, .int .u64 0, .int .u64 0, .int .u64 0, .int .u64 0, .int .u64 0, .int .u64 0, .int .u64 0, .int .u64 0, .int .u64 0, .int .u64 0, .int .u64 0, .int .u64 0] := rfl
 obtain ⟨W0, hW0⟩ : ∃ W0, (w.alloc (.cells (luC 25 A) 112)).alloc (.cells #[.int .u64 0, .int .u64 0, .int .u64 0, .int .u64 0, .int .u64 0, .int .u64 0, .int .u64 0, .int .u64 0, .int .u64 0, .int .u64 0, .int .u64 0, .int .u64 0, .int .u64 0, .int .u64 0, .int .u64 0, .int .u64 0, .int .u64 0, .int .u64 0, .int .u64 0, .int .u64 0, .int .u64 0, .int .u64 0, .int .u64 0, .int .u64 0, .int .u64 0] 112) = W0 := ⟨_, rfl⟩
 rw [hW0] at LA LR HT Q ⊢
 rw [← Z0] at LR
 clear hW0 H24 Z0
 go_loopw [6] (fun i wr => ∃ k : Nat, k ≤ 24 ∧ i = .int .i64 (k : Int) ∧ Has wr w.heap.size 112 (luC 25 (permK A k)) ∧ Has wr (w.heap.size + 1) 112 (luC 25 fun _ => 0) ∧ Tab wr ∧ Below w.heap.size w wr) (fun i _ => 24 - (intOf i).toNat)
 case atStart => exact ⟨0, by omega, rfl, LA, LR, HT, Q⟩
 case round =>
  clear LA LR HT Q
  obtain ⟨k, hk, rfl, LA, LR, HT, Q⟩ := hrel
  by_cases hlt : k < 24
  ·have hkI : (k : Int) < 24 := by omega
   have hix := index24 k hlt wr
   have HC := hid (rc_lt k)
   have hP := HL.out k (by omega)
   have HS' := hid (HS.out k hlt)
   have HLT := hid hlt
   clear hk hlt HL HS
   generalize hPe : permK A k = P at *
   clear hPe
   generalize rcL.getD k 0 = c at *
   have hth := fun j => thetaN_lt P hP j
   have htu := fun j => turnK_lt _ hth 24 j
   have hmi := fun j => mixN_lt _ htu j
   have HX := hid (xor_i (mixN (turnK (thetaN P) 24) 0) c (hmi 0) HC.out)
   have HSr : Hid (∀ i, i < 25 → permK A (k + 1) i = if i = 0 then mixN (turnK (thetaN P) 24) 0 ^^^ c else mixN (turnK (thetaN P) 24) i) := hid (fun i _ => by rw [HS'.out]; rfl)
   go_wp2_with fail
   refine (HTH.out w.heap.size P hP _ LA).mono ?_
   rintro e w1 ⟨⟨v1, rfl⟩, L1, G⟩
   replace LR := LR.kept G (by simp)
   replace HT := HT.kept G hw0
   replace Q := below_of_grown Q G (Nat.le_refl _)
   clear G LA hix
   go_wp2_with fail
   refine (HTU.out w.heap.size _ hth _ L1).mono ?_
   rintro e w2 ⟨rfl, q⟩
   replace L1 := L1.later q
   replace LR := LR.later q
   replace HT := HT.later q
   replace Q := Q.trans (q.mono Q.size)
   clear q
   have H1 := hid L1
   go_wp2_with (refine wpList_storeB rfl _ _ _ rfl w.heap.size (luC 25 (turnK (thetaN P) 24)) rfl rfl _ _ H1.out (infoL _) (by rw [luC_size, luC_size]) (one_luC 25 _) ?_)
   replace L1 : Has (w2.setRow w.heap.size (luC 25 (turnK (thetaN P) 24))) w.heap.size 112 (luC 25 (turnK (thetaN P) 24)) := L1.rowK
   replace LR : Has (w2.setRow w.heap.size (luC 25 (turnK (thetaN P) 24))) (w.heap.size + 1) 112 (luC 25 fun _ => 0) := (setRow_other (by omega)).trans LR
   replace HT := HT.row hw0 (luC 25 (turnK (thetaN P) 24))
   replace Q := below_row Q (Nat.le_refl _) (luC 25 (turnK (thetaN P) 24))
   obtain ⟨w3, hw3⟩ : ∃ w3, w2.setRow w.heap.size (luC 25 (turnK (thetaN P) 24)) = w3 := ⟨_, rfl⟩
   rw [hw3] at L1 LR HT Q ⊢
   clear hw3 H1
   refine (HMI.out w.heap.size _ htu _ L1).mono ?_
   rintro e w4 ⟨rfl, q⟩
   replace L1 := L1.later q
   replace LR := LR.later q
   replace HT := HT.later q
   replace Q := Q.trans (q.mono Q.size)
   clear q
   have H1 := hid L1
   have L2 := hid (show Has (w4.setRow w.heap.size (luC 25 (mixN (turnK (thetaN P) 24)))) w.heap.size 112 (luC 25 (mixN (turnK (thetaN P) 24))) from L1.rowK)
   replace LR : Has (w4.setRow w.heap.size (luC 25 (mixN (turnK (thetaN P) 24)))) (w.heap.size + 1) 112 (luC 25 fun _ => 0) := (setRow_other (by omega)).trans LR
   replace HT := HT.row hw0 (luC 25 (mixN (turnK (thetaN P) 24)))
   replace Q := below_row Q (Nat.le_refl _) (luC 25 (mixN (turnK (thetaN P) 24)))
   have c0 := L2.out.cell 0 _ (luC_get 25 _ 0 (by omega))
   have z0 := L2.out.frozen 0
   have hx := HX.out
   have N1 := hid (L2.out.set 0 (.int .u64 ((mixN (turnK (thetaN P) 24) 0 ^^^ c : Nat) : Int)))
   rw [luC_set 25 _ (permK A (k + 1)) 0 _ HSr.out] at N1
   have N2 := hid (LR.other (p := ⟨w.heap.size, 0, none⟩) (by simp) (.int .u64 ((mixN (turnK (thetaN P) 24) 0 ^^^ c : Nat) : Int)))
   have N3 := hid (HT.other (p := ⟨w.heap.size, 0, none⟩) hw0 (.int .u64 ((mixN (turnK (thetaN P) 24) 0 ^^^ c : Nat) : Int)))
   have N4 := hid (Q.setCell (p := ⟨w.heap.size, 0, none⟩) (Nat.le_refl _) (.int .u64 ((mixN (turnK (thetaN P) 24) 0 ^^^ c : Nat) : Int)))
   clear L1 LR HT Q HX HSr HC HS' hth htu hmi hP
   generalize mixN (turnK (thetaN P) 24) 0 ^^^ c = r at *
   generalize mixN (turnK (thetaN P) 24) 0 = m0 at *
   generalize mixN (turnK (thetaN P) 24) = M at *
   go_wp2_with (refine wpList_storeB rfl _ _ _ rfl w.heap.size (luC 25 M) rfl rfl _ _ H1.out (infoL _) (by rw [luC_size, luC_size]) (one_luC 25 _) ?_)
   go_roundw
   case rel => exact ⟨k + 1, by have := HLT.out; omega, by simp, N1.out, N2.out, N3.out, N4.out⟩
   case measure => simp [intOf]; omega
  ·obtain rfl : k = 24 := by omega
   have HA := hid (load25 LA)
   have HR := hid LR
   have HQ := hid (below_row (B := w.heap.size + 1) Q (by omega) (luC 25 (permK A 24)))
   have HR2 : Hid (Has (wr.setRow (w.heap.size + 1) (luC 25 (permK A 24))) (w.heap.size + 1) 112 (luC 25 (permK A 24))) := hid LR.rowK
   clear LA LR HT Q hk hlt
   go_wp2_with (first | (refine wpList_loadB rfl _ _ rfl w.heap.size rfl _ HA.out ?_) | (refine wpList_storeB rfl _ _ _ rfl (w.heap.size + 1) (luC 25 (permK A 24)) rfl rfl _ _ HR.out (infoL _) (by rw [luC_size, luC_size]) (one_luC 25 _) ?_))
   refine bodyPost_ret (results_cell_row rfl _ _ (w.heap.size + 1) _ _ (0, 0) _ rfl HR2.out Tryz.underlying112 rfl (infoL _)) rfl ⟨rfl, HQ.out⟩
end
end Go.Proofs.YtkicmbdjihjgfaaGreatDoor
