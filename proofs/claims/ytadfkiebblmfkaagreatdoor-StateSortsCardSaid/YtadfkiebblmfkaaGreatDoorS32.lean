import Derived.Test.YtadfkiebblmfkaaGreatDoorS31
import Derived.Deep.WholeRow
/- rho and pi at once: what 'turned' makes of lanes. For all lanes. -/
namespace Go.Proofs.YtadfkiebblmfkaaGreatDoor
open Go Go.RowKit Go.Shelf
attribute [local go_sem] Oper.semAt_some Grows wide_fn field0

theorem one_luC (n : Nat) (A : Nat → Nat) : (luC n A).all (·.oneCell') = true := by
  rw [Array.all_eq_true]
  intro i hi
  simp [luC, Value.oneCell']
theorem info25 : (Tryz.prog.info? 115).map (·.size) = some 25 := by kernel_rfl
theorem Has.rowK {W : World} {B : Nat} {t : TypeId} {cs cs' : Array Value} (h : Has W B t cs) : Has (W.setRow B cs') B t cs' := by
  obtain ⟨hlt, he⟩ := Array.getElem?_eq_some_iff.1 h
  show (W.heap.modify B _)[B]? = _
  rw [Array.getElem?_eq_getElem (by rw [Array.size_modify]; exact hlt), Array.getElem_modify_self, he]
theorem setRow_other {W : World} {B b : Nat} {cs : Array Value} (h : b ≠ B) : (W.setRow B cs).heap[b]? = W.heap[b]? := by
  show (W.heap.modify B _)[b]? = _
  rw [Array.getElem?_modify, if_neg (fun e => h e.symm)]
theorem grown_row {w A : World} {S : Nat} {row : Option Nat} (h : w.grownBy A row) {B : Nat} (hp : row = some B ∨ w.heap.size ≤ B) (cs : Array Value) : w.grownBy (A.setRow B cs) row :=
  ⟨h.os, h.tape, h.output, by show _ ≤ (A.heap.modify B _).size; rw [Array.size_modify]; exact h.size, fun k hk hne => (setRow_other (fun e => by subst e; rcases hp with hp | hp; exact hne hp.symm; omega)).trans (h.block k hk hne)⟩
theorem below_row {w W : World} {n : Nat} (h : Below n w W) {B : Nat} (hB : n ≤ B) (cs : Array Value) : Below n w (W.setRow B cs) :=
  ⟨h.os, h.tape, h.output, by show _ ≤ (W.heap.modify B _).size; rw [Array.size_modify]; exact h.size, fun k hk => (setRow_other (by omega)).trans (h.block k hk)⟩
theorem wpListIn_storeB {F : Fence} {n : Nat} {ops : Array Oper} {Q : Exit → Act → World → Prop} {a : Act} {w : World} {rest : List Oper} {o : Oper} (hF : Free F) (hg : o.guard = none) (ty : TypeId) (x y : Operand) (ho : o.op = .store ty x y) (B : Nat) (cells : Array Value)
    (hx : a.eval x = .pointer (some ⟨B, 0, none⟩)) (hy : a.eval y = .agg cells) (t : TypeId) (old : Array Value) (hh : Has w B t old) (hi : (Tryz.prog.info? ty).map (·.size) = some cells.size) (hold : old.size = cells.size) (h1 : cells.all (·.oneCell') = true)
    (h : wpListIn F n Tryz.prog ops Q rest (a.put o.dst undef) (w.setRow B cells)) : wpListIn F n Tryz.prog ops Q (o :: rest) a w :=
  wpListIn_plain hg fun K hK => by
    unfold Oper.wpIn
    refine ⟨fun f _ => hF.fn f, ?_⟩
    rw [Oper.semAt_eq _ _ _ (by intro c; rw [ho]; simp)]
    unfold execOp
    simp only [ho, hx, hy, Instr.storeAt, Instr.sureAddr, Sem.run_bind, Sem.run_pure, Result.andThen_ok, run_storeVar_row w B t ty old cells hh hi hold h1]
    exact hK _ _ h
theorem wpListIn_loadB {F : Fence} {n : Nat} {ops : Array Oper} {Q : Exit → Act → World → Prop} {a : Act} {w : World} {rest : List Oper} {o : Oper} (hF : Free F) (hg : o.guard = none) (ty : TypeId) (x : Operand) (ho : o.op = .load ty x) (B : Nat) (hx : a.eval x = .pointer (some ⟨B, 0, none⟩)) (cs : Array Value) (hr : (loadVar ty ⟨B, 0, none⟩).run Tryz.prog w = .ok (.agg cs) w)
    (h : wpListIn F n Tryz.prog ops Q rest (a.put o.dst (.agg cs)) w) : wpListIn F n Tryz.prog ops Q (o :: rest) a w :=
  wpListIn_plain hg fun K hK => by
    unfold Oper.wpIn
    refine ⟨fun f _ => hF.fn f, ?_⟩
    rw [Oper.semAt_eq _ _ _ (by intro c; rw [ho]; simp)]
    unfold execOp
    simp only [ho, hx, Instr.loadAt, Instr.sureAddr, Sem.run_bind, Sem.run_pure, Result.andThen_ok, hr]
    exact hK _ _ h
theorem load25 {W : World} {B : Nat} {A : Nat → Nat} (h : Has W B 115 (luC 25 A)) : (loadVar 115 ⟨B, 0, none⟩).run Tryz.prog W = .ok (.agg (luC 25 A)) W :=
  run_loadVar_row _ _ _ _ _ (0, 0) _ h Tryz.underlying115 rfl (by rw [luC_size]; exact info25)
theorem infoL (A : Nat → Nat) : (Tryz.prog.info? 115).map (·.size) = some (luC 25 A).size := by rw [luC_size]; exact info25

/-- What the blocks hold: the lanes, their address, the result, what is made. -/
structure TuSt (w : World) (B : Nat) (A M : Nat → Nat) (W : World) : Prop where
  A : Has W B 115 (luC 25 A)
  P : Has W w.heap.size 121 #[.pointer (some ⟨B, 0, none⟩)]
  R : Has W (w.heap.size + 1) 115 (luC 25 fun _ => 0)
  M : Has W (w.heap.size + 1 + 1) 115 (luC 25 M)
  Q : Below w.heap.size w W
theorem TuSt.own (w : World) (B n : Nat) (hn : w.heap.size ≤ n) (A : Nat → Nat) (M : Nat → Nat → Nat) : OwnFrom n (fun (k : Nat) W => TuSt w B A (M k) W) := fun s X Y row hs hg hr =>
  ⟨hs.A.grown hg (fun r e => (hr r e).2), hs.P.grown hg (fun r e => (hr r e).2), hs.R.grown hg (fun r e => (hr r e).2), hs.M.grown hg (fun r e => (hr r e).2),
    ⟨hg.os.trans hs.Q.os, hg.tape.trans hs.Q.tape, hg.output.trans hs.Q.output, Nat.le_trans hs.Q.size hg.size, fun k hk => (hg.block k (Nat.lt_of_lt_of_le hk hs.Q.size) (fun e => by have := (hr k e.symm).1; omega)).trans (hs.Q.block k hk)⟩⟩
theorem TuSt.below {w : World} {B n : Nat} (hn : w.heap.size + 1 + 1 < n) (hB : B < w.heap.size) {A M : Nat → Nat} {W X : World} (h : TuSt w B A M W) (hb : Below n W X) : TuSt w B A M X :=
  ⟨h.A.below hb (by omega), h.P.below hb (by omega), h.R.below hb (by omega), h.M.below hb (by omega), h.Q.trans (hb.mono (by omega))⟩
theorem TuSt.later {w : World} {B : Nat} {A M : Nat → Nat} {W X : World} (h : TuSt w B A M W) (hb : Below W.heap.size W X) : TuSt w B A M X :=
  ⟨h.A.later hb, h.P.later hb, h.R.later hb, h.M.later hb, h.Q.trans (hb.mono h.Q.size)⟩
theorem TuSt.put {w : World} {B : Nat} {A M M' : Nat → Nat} {W : World} (h : TuSt w B A M W) (hB : B < w.heap.size) (j v : Nat) (hM : ∀ i, i < 25 → M' i = if i = j then v else M i) :
    TuSt w B A M' (W.setCell ⟨w.heap.size + 1 + 1, j, none⟩ (.int .u64 ((v : Nat) : Int))) :=
  ⟨h.A.other (by simp; omega) _, h.P.other (by simp; omega) _, h.R.other (by simp) _, by have := h.M.set j (.int .u64 ((v : Nat) : Int)); rwa [luC_set 25 M M' j v hM] at this, h.Q.setCell (by simp; omega) _⟩
theorem wl_lt (k : Nat) : wl k < 25 := by have := wx_lt k; unfold wl; omega

set_option maxRecDepth 100000 in
set_option maxHeartbeats 4000000 in
theorem turned_calls (B : Nat) (A : Nat → Nat) (hA : ∀ j, A j < 2 ^ 64) (w : World) (hB : Has w B 115 (luC 25 A)) :
    Calls Tryz.prog 108 #[.pointer (some ⟨B, 0, none⟩)] w fun e w' => e = .returned (.agg (luC 25 (turnK A 24))) ∧ Below w.heap.size w w' := by
  have hBl := hB.lt
  have hmx : Tryz.prog.follows .mixedOrders = true := by kernel_rfl
  refine (callsIn_wide (n := 8)).1 ?_
  refine callsIn_of_wp_marks Tryz.func108 rfl trivial ?_ rfl
  simp only [Tryz.ntmps108, List.size_toArray, List.length_cons, List.length_nil, Nat.reduceAdd, Nat.reduceSub, Array.replicate_succ, Array.replicate_zero, List.push_toArray, List.append_toArray, List.nil_append, List.cons_append]
  have kA := ((hB.alloc (.cells #[.pointer (some ⟨B, 0, none⟩)] 121)).alloc (.cells #[.int .u64 0, .int .u64 0, .int .u64 0, .int .u64 0, .int .u64 0, .int .u64 0, .int .u64 0, .int .u64 0, .int .u64 0, .int .u64 0, .int .u64 0, .int .u64 0, .int .u64 0, .int .u64 0, .int .u64 0, .int .u64 0, .int .u64 0, .int .u64 0, .int .u64 0, .int .u64 0, .int .u64 0, .int .u64 0, .int .u64 0, .int .u64 0, .int .u64 0] 115)).cell 0 _ (luC_get 25 A 0 (by omega))
  have kP := ((Has.new w 121 #[.pointer (some ⟨B, 0, none⟩)]).alloc (.cells #[.int .u64 0, .int .u64 0, .int .u64 0, .int .u64 0, .int .u64 0, .int .u64 0, .int .u64 0, .int .u64 0, .int .u64 0, .int .u64 0, .int .u64 0, .int .u64 0, .int .u64 0, .int .u64 0, .int .u64 0, .int .u64 0, .int .u64 0, .int .u64 0, .int .u64 0, .int .u64 0, .int .u64 0, .int .u64 0, .int .u64 0, .int .u64 0, .int .u64 0] 115)).cell 0 _ rfl
  have LM := Has.new ((w.alloc (.cells #[.pointer (some ⟨B, 0, none⟩)] 121)).alloc (.cells #[.int .u64 0, .int .u64 0, .int .u64 0, .int .u64 0, .int .u64 0, .int .u64 0, .int .u64 0, .int .u64 0, .int .u64 0, .int .u64 0, .int .u64 0, .int .u64 0, .int .u64 0, .int .u64 0, .int .u64 0, .int .u64 0, .int .u64 0, .int .u64 0, .int .u64 0, .int .u64 0, .int .u64 0, .int .u64 0, .int .u64 0, .int .u64 0, .int .u64 0] 115)) 115 #[.int .u64 0, .int .u64 0, .int .u64 0, .int .u64 0, .int .u64 0, .int .u64 0, .int .u64 0, .int .u64 0, .int .u64 0, .int .u64 0, .int .u64 0, .int .u64 0, .int .u64 0, .int .u64 0, .int .u64 0, .int .u64 0, .int .u64 0, .int .u64 0, .int .u64 0, .int .u64 0, .int .u64 0, .int .u64 0, .int .u64 0, .int .u64 0, .int .u64 0]
  simp only [World.size_alloc] at LM
  have HM := Lib.hid LM
  have H1 := Lib.hid (one_luC 25 (turnK A 0))
  clear LM
  gi_wp2_with (refine wpListIn_storeB free_wide rfl _ _ _ rfl (w.heap.size + 1 + 1) #[.int .u64 ((A 0 : Nat) : Int), .int .u64 0, .int .u64 0, .int .u64 0, .int .u64 0, .int .u64 0, .int .u64 0, .int .u64 0, .int .u64 0, .int .u64 0, .int .u64 0, .int .u64 0, .int .u64 0, .int .u64 0, .int .u64 0, .int .u64 0, .int .u64 0, .int .u64 0, .int .u64 0, .int .u64 0, .int .u64 0, .int .u64 0, .int .u64 0, .int .u64 0, .int .u64 0] rfl rfl _ #[.int .u64 0, .int .u64 0, .int .u64 0, .int .u64 0, .int .u64 0, .int .u64 0, .int .u64 0, .int .u64 0, .int .u64 0, .int .u64 0, .int .u64 0, .int .u64 0, .int .u64 0, .int .u64 0, .int .u64 0, .int .u64 0, .int .u64 0, .int .u64 0, .int .u64 0, .int .u64 0, .int .u64 0, .int .u64 0, .int .u64 0, .int .u64 0, .int .u64 0] HM.out info25 rfl H1.out ?_)
  have hI0 : TuSt w B A (turnK A 0) (((((w.alloc (.cells #[.pointer (some ⟨B, 0, none⟩)] 121)).alloc (.cells #[.int .u64 0, .int .u64 0, .int .u64 0, .int .u64 0, .int .u64 0, .int .u64 0, .int .u64 0, .int .u64 0, .int .u64 0, .int .u64 0, .int .u64 0, .int .u64 0, .int .u64 0, .int .u64 0, .int .u64 0, .int .u64 0, .int .u64 0, .int .u64 0, .int .u64 0, .int .u64 0, .int .u64 0, .int .u64 0, .int .u64 0, .int .u64 0, .int .u64 0] 115)).alloc (.cells #[.int .u64 0, .int .u64 0, .int .u64 0, .int .u64 0, .int .u64 0, .int .u64 0, .int .u64 0, .int .u64 0, .int .u64 0, .int .u64 0, .int .u64 0, .int .u64 0, .int .u64 0, .int .u64 0, .int .u64 0, .int .u64 0, .int .u64 0, .int .u64 0, .int .u64 0, .int .u64 0, .int .u64 0, .int .u64 0, .int .u64 0, .int .u64 0, .int .u64 0] 115))).setRow (w.heap.size + 1 + 1) #[.int .u64 ((A 0 : Nat) : Int), .int .u64 0, .int .u64 0, .int .u64 0, .int .u64 0, .int .u64 0, .int .u64 0, .int .u64 0, .int .u64 0, .int .u64 0, .int .u64 0, .int .u64 0, .int .u64 0, .int .u64 0, .int .u64 0, .int .u64 0, .int .u64 0, .int .u64 0, .int .u64 0, .int .u64 0, .int .u64 0, .int .u64 0, .int .u64 0, .int .u64 0, .int .u64 0]) := by
    have L1 := ((hB.alloc (.cells #[.pointer (some ⟨B, 0, none⟩)] 121)).alloc (.cells #[.int .u64 0, .int .u64 0, .int .u64 0, .int .u64 0, .int .u64 0, .int .u64 0, .int .u64 0, .int .u64 0, .int .u64 0, .int .u64 0, .int .u64 0, .int .u64 0, .int .u64 0, .int .u64 0, .int .u64 0, .int .u64 0, .int .u64 0, .int .u64 0, .int .u64 0, .int .u64 0, .int .u64 0, .int .u64 0, .int .u64 0, .int .u64 0, .int .u64 0] 115)).alloc (.cells #[.int .u64 0, .int .u64 0, .int .u64 0, .int .u64 0, .int .u64 0, .int .u64 0, .int .u64 0, .int .u64 0, .int .u64 0, .int .u64 0, .int .u64 0, .int .u64 0, .int .u64 0, .int .u64 0, .int .u64 0, .int .u64 0, .int .u64 0, .int .u64 0, .int .u64 0, .int .u64 0, .int .u64 0, .int .u64 0, .int .u64 0, .int .u64 0, .int .u64 0] 115)
    have L2 := ((Has.new w 121 #[.pointer (some ⟨B, 0, none⟩)]).alloc (.cells #[.int .u64 0, .int .u64 0, .int .u64 0, .int .u64 0, .int .u64 0, .int .u64 0, .int .u64 0, .int .u64 0, .int .u64 0, .int .u64 0, .int .u64 0, .int .u64 0, .int .u64 0, .int .u64 0, .int .u64 0, .int .u64 0, .int .u64 0, .int .u64 0, .int .u64 0, .int .u64 0, .int .u64 0, .int .u64 0, .int .u64 0, .int .u64 0, .int .u64 0] 115)).alloc (.cells #[.int .u64 0, .int .u64 0, .int .u64 0, .int .u64 0, .int .u64 0, .int .u64 0, .int .u64 0, .int .u64 0, .int .u64 0, .int .u64 0, .int .u64 0, .int .u64 0, .int .u64 0, .int .u64 0, .int .u64 0, .int .u64 0, .int .u64 0, .int .u64 0, .int .u64 0, .int .u64 0, .int .u64 0, .int .u64 0, .int .u64 0, .int .u64 0, .int .u64 0] 115)
    have L3 := (Has.new (w.alloc (.cells #[.pointer (some ⟨B, 0, none⟩)] 121)) 115 #[.int .u64 0, .int .u64 0, .int .u64 0, .int .u64 0, .int .u64 0, .int .u64 0, .int .u64 0, .int .u64 0, .int .u64 0, .int .u64 0, .int .u64 0, .int .u64 0, .int .u64 0, .int .u64 0, .int .u64 0, .int .u64 0, .int .u64 0, .int .u64 0, .int .u64 0, .int .u64 0, .int .u64 0, .int .u64 0, .int .u64 0, .int .u64 0, .int .u64 0]).alloc (.cells #[.int .u64 0, .int .u64 0, .int .u64 0, .int .u64 0, .int .u64 0, .int .u64 0, .int .u64 0, .int .u64 0, .int .u64 0, .int .u64 0, .int .u64 0, .int .u64 0, .int .u64 0, .int .u64 0, .int .u64 0, .int .u64 0, .int .u64 0, .int .u64 0, .int .u64 0, .int .u64 0, .int .u64 0, .int .u64 0, .int .u64 0, .int .u64 0, .int .u64 0] 115)
    simp only [World.size_alloc] at L3
    have Q := (((Below.refl w.heap.size w).alloc (Nat.le_refl _) (.cells #[.pointer (some ⟨B, 0, none⟩)] 121)).alloc (by simp) (.cells #[.int .u64 0, .int .u64 0, .int .u64 0, .int .u64 0, .int .u64 0, .int .u64 0, .int .u64 0, .int .u64 0, .int .u64 0, .int .u64 0, .int .u64 0, .int .u64 0, .int .u64 0, .int .u64 0, .int .u64 0, .int .u64 0, .int .u64 0, .int .u64 0, .int .u64 0, .int .u64 0, .int .u64 0, .int .u64 0, .int .u64 0, .int .u64 0, .int .u64 0] 115)).alloc (by simp; omega) (.cells #[.int .u64 0, .int .u64 0, .int .u64 0, .int .u64 0, .int .u64 0, .int .u64 0, .int .u64 0, .int .u64 0, .int .u64 0, .int .u64 0, .int .u64 0, .int .u64 0, .int .u64 0, .int .u64 0, .int .u64 0, .int .u64 0, .int .u64 0, .int .u64 0, .int .u64 0, .int .u64 0, .int .u64 0, .int .u64 0, .int .u64 0, .int .u64 0, .int .u64 0] 115)
    exact ⟨(setRow_other (by omega)).trans L1, (setRow_other (by omega)).trans L2, (setRow_other (by omega)).trans L3, HM.out.rowK, below_row Q (by omega) _⟩
  obtain ⟨W0, hW0⟩ : ∃ W0, (((((w.alloc (.cells #[.pointer (some ⟨B, 0, none⟩)] 121)).alloc (.cells #[.int .u64 0, .int .u64 0, .int .u64 0, .int .u64 0, .int .u64 0, .int .u64 0, .int .u64 0, .int .u64 0, .int .u64 0, .int .u64 0, .int .u64 0, .int .u64 0, .int .u64 0, .int .u64 0, .int .u64 0, .int .u64 0, .int .u64 0, .int .u64 0, .int .u64 0, .int .u64 0, .int .u64 0, .int .u64 0, .int .u64 0, .int .u64 0, .int .u64 0] 115)).alloc (.cells #[.int .u64 0, .int .u64 0, .int .u64 0, .int .u64 0, .int .u64 0, .int .u64 0, .int .u64 0, .int .u64 0, .int .u64 0, .int .u64 0, .int .u64 0, .int .u64 0, .int .u64 0, .int .u64 0, .int .u64 0, .int .u64 0, .int .u64 0, .int .u64 0, .int .u64 0, .int .u64 0, .int .u64 0, .int .u64 0, .int .u64 0, .int .u64 0, .int .u64 0] 115))).setRow (w.heap.size + 1 + 1) #[.int .u64 ((A 0 : Nat) : Int), .int .u64 0, .int .u64 0, .int .u64 0, .int .u64 0, .int .u64 0, .int .u64 0, .int .u64 0, .int .u64 0, .int .u64 0, .int .u64 0, .int .u64 0, .int .u64 0, .int .u64 0, .int .u64 0, .int .u64 0, .int .u64 0, .int .u64 0, .int .u64 0, .int .u64 0, .int .u64 0, .int .u64 0, .int .u64 0, .int .u64 0, .int .u64 0]) = W0 := ⟨_, rfl⟩
  have hsz : W0.heap.size = w.heap.size + 3 := by rw [← hW0]; unfold World.setRow; simp
  rw [hW0] at hI0 ⊢
  clear hW0 HM H1 kA kP
  simp only [Act.put]
  generalize Value.agg #[.int .u64 ((A 0 : Nat) : Int), .int .u64 0, .int .u64 0, .int .u64 0, .int .u64 0, .int .u64 0, .int .u64 0, .int .u64 0, .int .u64 0, .int .u64 0, .int .u64 0, .int .u64 0, .int .u64 0, .int .u64 0, .int .u64 0, .int .u64 0, .int .u64 0, .int .u64 0, .int .u64 0, .int .u64 0, .int .u64 0, .int .u64 0, .int .u64 0, .int .u64 0, .int .u64 0] = v10
  generalize Value.int .u64 ((A 0 : Nat) : Int) = v9
  refine wpIn_rangeFunc_B rfl (by omega) (gf := 136) (lb := #[]) rfl trivial (enters_of Tryz.func136 (by kernel_rfl) rfl)
    (walk_seq _ (by omega) W0) KC.trans (fun W l o o' hl h1 h2 h3 => KC.put W l o o' hl h1 h2 h3) (fun _ _ => rfl)
    (fun k W => TuSt w B A (turnK A k) W) (fun _ _ _ => False) (TuSt.own w B _ (by omega) A (turnK A)) (fun _ _ _ _ _ hs _ _ => hs)
    (fun s V X hs hb => hs.below (by omega) hBl hb) (fun _ _ _ _ hs _ => hs) hI0
    (fun k a' V => ∃ b, Has V b 164 #[.int .u64 (((wx k).1 : Nat) : Int), .int .u64 (((wx k).2 : Nat) : Int)] ∧ a' = { tmps := #[.pointer (some ⟨B, 0, none⟩), .pointer (some ⟨w.heap.size, 0, none⟩), .pointer (some ⟨w.heap.size + 1, 0, none⟩), .pointer (some ⟨w.heap.size + 1 + 1, 0, none⟩), .int .i64 (((k + 1) * (k + 2) / 2 : Nat) : Int), .pointer (some ⟨b, 0, none⟩), .pointer (some ⟨B, 0, none⟩), .pointer (some ⟨B, 0, none⟩), .pointer (some ⟨B, 0, none⟩), v9, v10, .int .i64 (((k + 1) * (k + 2) / 2 : Nat) : Int), .agg #[.int .u64 (((wx k).1 : Nat) : Int), .int .u64 (((wx k).2 : Nat) : Int)], undef, undef, undef, undef, undef, undef, undef, undef, undef, undef, undef, undef, undef], defers := [] })
    (fun k a' _ X Y row hs hg hr => by obtain ⟨b, hH, e⟩ := hs; exact ⟨b, hH.grown hg (fun r e => (hr r e).2), e⟩) ?assign ?body ?done ?stop
  case assign =>
    intro l k W K hkN hst hK
    unfold wkV
    have HST := Lib.hid hst
    clear hst hkN hI0
    have HK := Lib.hid hK
    clear hK
    gi_wp2
    exact HK.out _ _ ((KeepsOthers.alloc _ _).from _) (KC.later ((Below.refl _ _).alloc (Nat.le_refl _) _)) (HST.out.later ((Below.refl _ _).alloc (Nat.le_refl _) _)) ⟨_, Has.new _ _ _, rfl⟩
  case body =>
    rintro l k a' W hl hlo hkN hst ⟨b, hH, rfl⟩
    have hx := (wx_lt k).1
    have hy := (wx_lt k).2
    have hx1 := (wx_lt (k + 1)).1
    have hy1 := (wx_lt (k + 1)).2
    have e1 : (((wx (k + 1)).1 : Nat) : Int) = (((wx k).2 : Nat) : Int) := rfl
    have e2 : (((wx (k + 1)).2 : Nat) : Int) = (2 * (((wx k).1 : Nat) : Int) + 3 * (((wx k).2 : Nat) : Int)) % 5 := by
      show (((2 * (wx k).1 + 3 * (wx k).2) % 5 : Nat) : Int) = _
      omega
    have HN : Hid (Ret Tryz.prog 137 #[.agg #[.int .u64 (((wx k).1 : Nat) : Int), .int .u64 (((wx k).2 : Nat) : Int)]] (.agg #[.int .u64 (((wx (k + 1)).1 : Nat) : Int), .int .u64 (((wx (k + 1)).2 : Nat) : Int)])) := Lib.hid ((next_ret _ _ ⟨Int.natCast_nonneg (wx k).1, by omega⟩ ⟨Int.natCast_nonneg (wx k).2, by omega⟩).of_eq rfl (by rw [e1, e2]))
    have HL : Hid (Ret Tryz.prog 133 #[.agg #[.int .u64 (((wx k).1 : Nat) : Int), .int .u64 (((wx k).2 : Nat) : Int)]] (.int .u64 ((wl k : Nat) : Int))) := Lib.hid ((lane_ret _ _ ⟨Int.natCast_nonneg (wx k).1, by omega⟩ ⟨Int.natCast_nonneg (wx k).2, by omega⟩).of_eq rfl (by unfold wl; congr 1))
    have HL1 : Hid (Ret Tryz.prog 133 #[.agg #[.int .u64 (((wx (k + 1)).1 : Nat) : Int), .int .u64 (((wx (k + 1)).2 : Nat) : Int)]] (.int .u64 ((wl (k + 1) : Nat) : Int))) := Lib.hid ((lane_ret _ _ ⟨Int.natCast_nonneg (wx (k + 1)).1, by omega⟩ ⟨Int.natCast_nonneg (wx (k + 1)).2, by omega⟩).of_eq rfl (by unfold wl; congr 1))
    have ht : (k + 1) * (k + 2) / 2 < 1000 := by
      have : (k + 1) * (k + 2) ≤ 25 * 26 := Nat.mul_le_mul (by omega) (by omega)
      omega
    have HR := Lib.hid (rot_ret (A (wl k)) ((k + 1) * (k + 2) / 2) (hA _) (by omega))
    have hS' : ∀ i, i < 25 → turnK A (k + 1) i = if i = wl (k + 1) then rotl (A (wl k)) ((k + 1) * (k + 2) / 2 % 64) else turnK A k i := fun i _ => rfl
    have hl0 := wl_lt k
    have hl1 := wl_lt (k + 1)
    have kb0 : ∀ x : Ext W, x.w.cell? ⟨b, 0, none⟩ = some (.int .u64 (((wx k).1 : Nat) : Int)) := fun x => (hH.later x.below).cell 0 _ rfl
    have kb1 : ∀ x : Ext W, x.w.cell? ⟨b, 1, none⟩ = some (.int .u64 (((wx k).2 : Nat) : Int)) := fun x => (hH.later x.below).cell 1 _ rfl
    have kM : ∀ x : Ext W, x.w.cell? ⟨w.heap.size + 1 + 1, wl (k + 1), none⟩ = some (.int .u64 ((turnK A k (wl (k + 1)) : Nat) : Int)) := fun x => (hst.M.later x.below).cell _ _ (luC_get 25 _ _ hl1)
    have kA : ∀ x : Ext W, x.w.cell? ⟨B, wl k, none⟩ = some (.int .u64 ((A (wl k) : Nat) : Int)) := fun x => (hst.A.later x.below).cell _ _ (luC_get 25 _ _ hl0)
    have kP : ∀ x : Ext W, x.w.cell? ⟨w.heap.size, 0, none⟩ = some (.pointer (some ⟨B, 0, none⟩)) := fun x => (hst.P.later x.below).cell 0 _ rfl
    have kz : ∀ x : Ext W, x.w.frozen? ⟨w.heap.size + 1 + 1, wl (k + 1), none⟩ = false := fun x => (hst.M.later x.below).frozen _
    have HW : Hid (w.heap.size + 1 + 1 < W0.heap.size) := Lib.hid (by omega)
    generalize rotl (A (wl k)) ((k + 1) * (k + 2) / 2 % 64) = r at *
    generalize turnK A k (wl (k + 1)) = m0 at *
    generalize A (wl k) = ak at *
    generalize (k + 1) * (k + 2) / 2 = tr at *
    clear e1 e2 hx hy hx1 hy1
    have HST := Lib.hid hst
    have HS' := Lib.hid hS'
    clear hst hH hS' hkN hI0
    generalize wl (k + 1) = l1 at *
    generalize wl k = l0 at *
    generalize (((wx (k + 1)).1 : Nat) : Int) = nx at *
    generalize (((wx (k + 1)).2 : Nat) : Int) = ny at *
    generalize (((wx k).1 : Nat) : Int) = px at *
    generalize (((wx k).2 : Nat) : Int) = py at *
    have hl0I : (l0 : Int) < 25 := by omega
    have hl1I : (l1 : Int) < 25 := by omega
    have htI : (tr : Int) < 1000 := by omega
    clear hl0 hl1 ht
    gi_wp2_with fail
    refine wpIn_region_mix (C := Grows W) (free_round l) [some true, some true, some true, some true, some true, some true, some true, some true, some true, some true, some true, some true, none] hmx (by kernel_rfl) (by kernel_rfl) (grows_refl W) ?_
    simp only [headOf, tailOf]
    repeat (go_big_quiet_step (first | (with_reducible exact Ret.at HL.out _) | (with_reducible exact Ret.at HN.out _) | (with_reducible exact Ret.at HL1.out _) | (with_reducible exact Ret.at HR.out _)))
    refine wpQuiet_nil ?_
    rintro _ ⟨x, rfl⟩
    have H2 := Lib.hid ((HST.out.later x.below).put hBl l1 r HS'.out)
    have HKP := Lib.hid (x.keeps W0.heap.size)
    have HKC : Hid (KC W0.heap.size W x.w) := Lib.hid (KC.later x.below)
    have kz' := kz x
    have kM' := kM x
    clear kz kM kA kP kb0 kb1
    go_wp2
    rw [calmPost_normal]
    gi_wp2
    exact ⟨HKP.out.trans ((KeepsOthers.setCell _ _ _).from _), HKC.out.trans (KC.set _ HW.out _), H2.out⟩
  case done =>
    rintro D W hD hst hK
    have hDR : D ≠ w.heap.size + 1 := by omega
    have HM := Lib.hid (load25 hst.M)
    have HRR := Lib.hid hst.R
    have hQ := below_row (B := w.heap.size + 1) hst.Q (by omega) (luC 25 (turnK A 24))
    have hR2 : Has (W.setRow (w.heap.size + 1) (luC 25 (turnK A 24))) (w.heap.size + 1) 115 (luC 25 (turnK A 24)) := hst.R.rowK
    have hK2 : (W.setRow (w.heap.size + 1) (luC 25 (turnK A 24))).heap[D]? = some (.deferred (some [])) := (setRow_other hDR).trans hK
    have HQ := Lib.hid hQ
    have HR2 := Lib.hid hR2
    have HK2 := Lib.hid hK2
    have HIL := Lib.hid (infoL (turnK A 24))
    have HIO := Lib.hid (one_luC 25 (turnK A 24))
    clear hst hK hQ hR2 hK2 hI0
    gi_wp2_with (first | (refine wpListIn_loadB free_wide rfl _ _ rfl (w.heap.size + 1 + 1) rfl _ HM.out ?_) | (refine wpListIn_storeB free_wide rfl _ _ _ rfl (w.heap.size + 1) (luC 25 (turnK A 24)) rfl rfl _ _ HRR.out HIL.out (by rw [luC_size, luC_size]) HIO.out ?_))
    have R6 : Has ((W.setRow (w.heap.size + 1) (luC 25 (turnK A 24))).putObj D (.deferred none)) (w.heap.size + 1) 115 (luC 25 (turnK A 24)) := (World.putObj_heap_other (fun e => hDR e.symm)).trans HR2.out
    have Q6 : Below w.heap.size w ((W.setRow (w.heap.size + 1) (luC 25 (turnK A 24))).putObj D (.deferred none)) := HQ.out.trans (belowK_b (w := w) (Nat.le_refl _) _ D _ _ (by omega) HK2.out rfl rfl)
    refine ⟨by simp, .inl ⟨_, _, rfl, run_takeDeferred HK2.out, ?_⟩⟩
    exact ⟨_, results_cell_row rfl _ _ (w.heap.size + 1) _ _ (0, 0) _ rfl R6 Tryz.underlying115 rfl (infoL _), rfl, Q6⟩
  case stop =>
    rintro D c k W _ _ h _
    exact h.elim
end Go.Proofs.YtadfkiebblmfkaaGreatDoor
