/- Permute: 24 rounds, by the table of the rounds' numbers. For all lanes. -/
import Derived.Test.YtobdjakflknlcaaDoorKecF
namespace Go.Proofs.YtobdjakflknlcaaDoor
open Go Go.RowKit Go.Shelf
attribute [local go_sem] Oper.semAt_some Grows wide_fn field0

/-- The world's first block holds the rounds' numbers. -/
structure Tab (W : World) : Prop where
  lt : 0 < W.heap.size
  cell : ∀ i, i < 24 → W.cell? ⟨0, i, none⟩ = some (.int .u64 ((rcL.getD i 0 : Nat) : Int))
theorem Tab.below {W W' : World} {n : Nat} (h : Tab W) (hb : Below n W W') (hn : 0 < n) : Tab W' := ⟨Nat.lt_of_lt_of_le h.lt hb.size, fun i hi => (hb.cell (p := ⟨0, i, none⟩) hn).trans (h.cell i hi)⟩
theorem Tab.later {W W' : World} (h : Tab W) (hb : Below W.heap.size W W') : Tab W' := h.below hb h.lt
theorem Tab.alloc {W : World} (h : Tab W) (o : Obj) : Tab (W.alloc o) := h.later ((Below.refl _ W).alloc (Nat.le_refl _) o)
theorem Tab.other {W : World} (h : Tab W) {p : Addr} (hp : 0 < p.block) (v : Value) : Tab (W.setCell p v) := h.below (n := 1) ((Below.refl 1 W).setCell hp v) (by omega)
theorem Tab.kept {W W' : World} {B : Nat} (h : Tab W) (hg : W.grownBy W' (some B)) (hB : 0 < B) : Tab W' := ⟨Nat.lt_of_lt_of_le h.lt hg.size, fun i hi => (World.cell?_of_block (w := W) (hg.block 0 h.lt (fun e => by cases e; omega))).trans (h.cell i hi)⟩
theorem Tab.row {W : World} {B : Nat} (h : Tab W) (hB : 0 < B) (cs : Array Value) : Tab (W.setRow B cs) := h.below (n := 1) (below_row (Below.refl 1 W) hB cs) (by omega)
theorem below_of_grown {w A X : World} {B : Nat} (h : Below w.heap.size w A) (hg : A.grownBy X (some B)) (hn : w.heap.size ≤ B) : Below w.heap.size w X :=
  ⟨hg.os.trans h.os, hg.tape.trans h.tape, hg.output.trans h.output, Nat.le_trans h.size hg.size, fun k hk => (hg.block k (Nat.lt_of_lt_of_le hk h.size) (fun e => by cases e; omega)).trans (h.block k hk)⟩

/-- A call that gives one value where the table lies, and only adds to the heap. -/
def RetT (P : Program) (f : FuncId) (args : Array Value) (v : Value) : Prop := ∀ w, Tab w → Calls P f args w fun e w' => e = .returned v ∧ Below w.heap.size w w'
theorem Ret.toT {P : Program} {f : FuncId} {args : Array Value} {v : Value} (h : Ret P f args v) : RetT P f args v := fun w _ => h w
theorem RetT.at {P : Program} {f : FuncId} {args : Array Value} {v : Value} (h : RetT P f args v) {W : World} (hT : Tab W) (x : Ext W) :
    Calls P f args x.w fun e w'' => e = .returned v ∧ ∃ y : Ext W, w'' = y.w :=
  (h x.w (hT.later x.below)).mono fun _ w' ⟨he, hb⟩ => ⟨he, ⟨w', x.2.trans (hb.mono x.2.size)⟩, rfl⟩
theorem RetT.of_eq {P : Program} {f : FuncId} {args args' : Array Value} {v v' : Value} (h : RetT P f args v) (ha : args = args') (hv : v = v') : RetT P f args' v' := by subst ha; subst hv; exact h

/-- The rounds' numbers, as cells. -/
def rcC : Array Value := (rcL.map fun n => Value.int .u64 ((n : Nat) : Int)).toArray
theorem rcC_size : rcC.size = 24 := rfl
theorem rcC_get (k : Nat) (hk : k < 24) : rcC[k]? = some (.int .u64 ((rcL.getD k 0 : Nat) : Int)) := by
  have hl : k < rcL.length := hk
  unfold rcC
  simp [List.getElem?_map, List.getD_eq_getElem?_getD, List.getElem?_eq_getElem hl]
theorem info24 : (Tryd.prog.info? 35).map (·.size) = some 24 := by kernel_rfl
theorem load24 {W : World} (h : Tab W) : (loadVar 35 ⟨0, 0, none⟩).run Tryd.prog W = .ok (.agg rcC) W := by
  have hl : (loadCells ⟨0, 0, none⟩ rcC.toList.length).run Tryd.prog W = .ok rcC.toList.toArray W :=
    run_loadCells_list (P := Tryd.prog) W ⟨0, 0, none⟩ rcC.toList (fun j v hv => by
      have hadd : (⟨0, 0, none⟩ : Addr).add j = ⟨0, j, none⟩ := by unfold Addr.add; split <;> simp_all
      have hj : j < 24 := by
        rcases Nat.lt_or_ge j 24 with h' | h'
        · exact h'
        · rw [List.getElem?_eq_none (show rcC.toList.length ≤ j from h')] at hv; cases hv
      have hg := rcC_get j hj
      rw [Array.getElem?_toList] at hv
      rw [hadd, h.cell j hj, ← hg, hv])
  have hi := info24
  cases hq : Tryd.prog.info? 35 with
  | none => simp [hq] at hi
  | some i =>
    have hs : i.size = 24 := by simpa [hq] using hi
    have hagg : (isAgg 35).run Tryd.prog W = .ok true W := by
      unfold isAgg
      rw [Sem.run_bind, run_underlying Tryd.underlying35 W]
      rfl
    have hl2 : (loadCells ⟨0, 0, none⟩ 24).run Tryd.prog W = .ok rcC W := by simpa [rcC_size] using hl
    simp [loadVar, Sem.run_bind, hagg, sizeOf, typeInfo, hq, hs, hl2]
theorem index24 (k : Nat) (hk : k < 24) (W : World) : (Instr.index 35 (.agg rcC) (.int .i64 (k : Int))).run Tryd.prog W = .ok (.int .u64 ((rcL.getD k 0 : Nat) : Int)) W := by
  have u := Tryd.underlying35
  have a3 := Tryd.isAgg22
  have z3 := Tryd.sizeOf22
  have hg := rcC_get k hk
  have hkI : (k : Int) < 24 := by omega
  unfold Instr.index
  simp only [Sem.run_bind, run_underlying u, Result.andThen_ok]
  simp [go_sem, part, asIntOf, a3, z3, hkI, hg]

theorem wpList_storeB {ops : Array Oper} {Q : Exit → Act → World → Prop} {a : Act} {w : World} {rest : List Oper} {o : Oper} (hg : o.guard = none) (ty : TypeId) (x y : Operand) (ho : o.op = .store ty x y) (B : Nat) (cells : Array Value)
    (hx : a.eval x = .pointer (some ⟨B, 0, none⟩)) (hy : a.eval y = .agg cells) (t : TypeId) (old : Array Value) (hh : Has w B t old) (hi : (Tryd.prog.info? ty).map (·.size) = some cells.size) (hold : old.size = cells.size) (h1 : cells.all (·.oneCell') = true)
    (h : wpList Tryd.prog ops Q rest (a.put o.dst undef) (w.setRow B cells)) : wpList Tryd.prog ops Q (o :: rest) a w :=
  wpList_store_row hg ty x y ho B cells hx hy t old hh hi hold h1 h
theorem wpList_loadB {ops : Array Oper} {Q : Exit → Act → World → Prop} {a : Act} {w : World} {rest : List Oper} {o : Oper} (hg : o.guard = none) (ty : TypeId) (x : Operand) (ho : o.op = .load ty x) (B : Nat) (hx : a.eval x = .pointer (some ⟨B, 0, none⟩)) (cs : Array Value) (hr : (loadVar ty ⟨B, 0, none⟩).run Tryd.prog w = .ok (.agg cs) w)
    (h : wpList Tryd.prog ops Q rest (a.put o.dst (.agg cs)) w) : wpList Tryd.prog ops Q (o :: rest) a w :=
  wpList_plain hg fun K hK => by
    unfold Oper.wp execOp
    simp only [ho, hx, Instr.loadAt, Instr.sureAddr, Sem.run_bind, Sem.run_pure, Result.andThen_ok, hr]
    exact hK _ _ h

theorem permK_succ (A : Nat → Nat) (k : Nat) (hk : k < 24) : permK A (k + 1) = rndN (permK A k) (rcL.getD k 0) := by
  have hl : k < rcL.length := hk
  unfold permK
  rw [List.take_add_one, List.foldl_append, List.getElem?_eq_getElem hl]
  simp [List.getD_eq_getElem?_getD, List.getElem?_eq_getElem hl]
theorem rc_lt (k : Nat) : rcL.getD k 0 < 2 ^ 64 := by
  rcases Nat.lt_or_ge k 24 with h | h
  · have : ∀ j : Fin 24, rcL.getD j.val 0 < 2 ^ 64 := by decide
    exact this ⟨k, h⟩
  · rw [List.getD_eq_getElem?_getD, List.getElem?_eq_none (show rcL.length ≤ k from h)]; decide
theorem rndN_lt (A : Nat → Nat) (hA : ∀ j, A j < 2 ^ 64) (c : Nat) (hc : c < 2 ^ 64) (j : Nat) : rndN A c j < 2 ^ 64 := by
  unfold rndN
  have h := mixN_lt _ (turnK_lt _ (thetaN_lt A hA) 24)
  split
  · exact Nat.xor_lt_two_pow (h 0) hc
  · exact h j
theorem permK_lt (A : Nat → Nat) (hA : ∀ j, A j < 2 ^ 64) : ∀ k, k ≤ 24 → ∀ j, permK A k j < 2 ^ 64
  | 0, _, j => hA j
  | k + 1, h, j => by rw [permK_succ A k (by omega)]; exact rndN_lt _ (permK_lt A hA k (by omega)) _ (rc_lt k) j

set_option maxRecDepth 100000 in
set_option maxHeartbeats 4000000 in
theorem permute_ret (A : Nat → Nat) (hA : ∀ j, A j < 2 ^ 64) : RetT Tryd.prog 5 #[.agg (luC 25 A)] (.agg (luC 25 (permN A))) := by
  intro w HT
  have hw0 := HT.lt
  have HTH := Lib.hid theta_calls
  have HTU := Lib.hid turned_calls
  have HMI := Lib.hid mixed_calls
  have HL := Lib.hid (permK_lt A hA)
  have HS := Lib.hid (permK_succ A)
  go_enter Tryd.func5, Tryd.ntmps5
  have LA := (Has.new w 24 (luC 25 A)).alloc (.cells #[.int .u64 0, .int .u64 0, .int .u64 0, .int .u64 0, .int .u64 0, .int .u64 0, .int .u64 0, .int .u64 0, .int .u64 0, .int .u64 0, .int .u64 0, .int .u64 0, .int .u64 0, .int .u64 0, .int .u64 0, .int .u64 0, .int .u64 0, .int .u64 0, .int .u64 0, .int .u64 0, .int .u64 0, .int .u64 0, .int .u64 0, .int .u64 0, .int .u64 0] 24)
  have LR := Has.new (w.alloc (.cells (luC 25 A) 24)) 24 #[.int .u64 0, .int .u64 0, .int .u64 0, .int .u64 0, .int .u64 0, .int .u64 0, .int .u64 0, .int .u64 0, .int .u64 0, .int .u64 0, .int .u64 0, .int .u64 0, .int .u64 0, .int .u64 0, .int .u64 0, .int .u64 0, .int .u64 0, .int .u64 0, .int .u64 0, .int .u64 0, .int .u64 0, .int .u64 0, .int .u64 0, .int .u64 0, .int .u64 0]
  simp only [World.size_alloc] at LR
  have HT := (HT.alloc (.cells (luC 25 A) 24)).alloc (.cells #[.int .u64 0, .int .u64 0, .int .u64 0, .int .u64 0, .int .u64 0, .int .u64 0, .int .u64 0, .int .u64 0, .int .u64 0, .int .u64 0, .int .u64 0, .int .u64 0, .int .u64 0, .int .u64 0, .int .u64 0, .int .u64 0, .int .u64 0, .int .u64 0, .int .u64 0, .int .u64 0, .int .u64 0, .int .u64 0, .int .u64 0, .int .u64 0, .int .u64 0] 24)
  have Q := ((Below.refl w.heap.size w).alloc (Nat.le_refl _) (.cells (luC 25 A) 24)).alloc (by simp) (.cells #[.int .u64 0, .int .u64 0, .int .u64 0, .int .u64 0, .int .u64 0, .int .u64 0, .int .u64 0, .int .u64 0, .int .u64 0, .int .u64 0, .int .u64 0, .int .u64 0, .int .u64 0, .int .u64 0, .int .u64 0, .int .u64 0, .int .u64 0, .int .u64 0, .int .u64 0, .int .u64 0, .int .u64 0, .int .u64 0, .int .u64 0, .int .u64 0, .int .u64 0] 24)
  have H24 := Lib.hid (load24 HT)
  go_wp2_with (refine wpList_loadB rfl _ _ rfl 0 rfl _ H24.out ?_)
  have Z0 : luC 25 (fun _ => 0) = #[.int .u64 0, .int .u64 0, .int .u64 0, .int .u64 0, .int .u64 0, .int .u64 0, .int .u64 0, .int .u64 0, .int .u64 0, .int .u64 0, .int .u64 0, .int .u64 0, .int .u64 0, .int .u64 0, .int .u64 0, .int .u64 0, .int .u64 0, .int .u64 0, .int .u64 0, .int .u64 0, .int .u64 0, .int .u64 0, .int .u64 0, .int .u64 0, .int .u64 0] := rfl
  obtain ⟨W0, hW0⟩ : ∃ W0, (w.alloc (.cells (luC 25 A) 24)).alloc (.cells #[.int .u64 0, .int .u64 0, .int .u64 0, .int .u64 0, .int .u64 0, .int .u64 0, .int .u64 0, .int .u64 0, .int .u64 0, .int .u64 0, .int .u64 0, .int .u64 0, .int .u64 0, .int .u64 0, .int .u64 0, .int .u64 0, .int .u64 0, .int .u64 0, .int .u64 0, .int .u64 0, .int .u64 0, .int .u64 0, .int .u64 0, .int .u64 0, .int .u64 0] 24) = W0 := ⟨_, rfl⟩
  rw [hW0] at LA LR HT Q ⊢
  rw [← Z0] at LR
  clear hW0 H24 Z0
  go_loopw [6] (fun i wr => ∃ k : Nat, k ≤ 24 ∧ i = .int .i64 (k : Int) ∧ Has wr w.heap.size 24 (luC 25 (permK A k)) ∧ Has wr (w.heap.size + 1) 24 (luC 25 fun _ => 0) ∧ Tab wr ∧ Below w.heap.size w wr) (fun i _ => 24 - (intOf i).toNat)
  case atStart => exact ⟨0, by omega, rfl, LA, LR, HT, Q⟩
  case round =>
    clear LA LR HT Q
    obtain ⟨k, hk, rfl, LA, LR, HT, Q⟩ := hrel
    by_cases hlt : k < 24
    · have hkI : (k : Int) < 24 := by omega
      have hix := index24 k hlt wr
      have HC := Lib.hid (rc_lt k)
      have hP := HL.out k (by omega)
      have HS' := Lib.hid (HS.out k hlt)
      have HLT := Lib.hid hlt
      clear hk hlt HL HS
      generalize hPe : permK A k = P at *
      clear hPe
      generalize rcL.getD k 0 = c at *
      have hth := fun j => thetaN_lt P hP j
      have htu := fun j => turnK_lt _ hth 24 j
      have hmi := fun j => mixN_lt _ htu j
      have HX := Lib.hid (xor_i (mixN (turnK (thetaN P) 24) 0) c (hmi 0) HC.out)
      have HSr : Hid (∀ i, i < 25 → permK A (k + 1) i = if i = 0 then mixN (turnK (thetaN P) 24) 0 ^^^ c else mixN (turnK (thetaN P) 24) i) := Lib.hid (fun i _ => by rw [HS'.out]; rfl)
      go_wp2_with fail
      refine (HTH.out w.heap.size P hP _ LA).mono ?_
      rintro e w1 ⟨⟨v1, rfl⟩, L1, G⟩
      replace LR := LR.kept G (by simp)
      replace HT := HT.kept G hw0
      replace Q := below_of_grown Q G (Nat.le_refl _)
      clear G LA hix
      go_wp2_with fail
      refine (HTU.out w.heap.size _ hth _ L1).mono ?_
      rintro e w2 ⟨rfl, q⟩
      replace L1 := L1.later q
      replace LR := LR.later q
      replace HT := HT.later q
      replace Q := Q.trans (q.mono Q.size)
      clear q
      have H1 := Lib.hid L1
      go_wp2_with (refine wpList_storeB rfl _ _ _ rfl w.heap.size (luC 25 (turnK (thetaN P) 24)) rfl rfl _ _ H1.out (infoL _) (by rw [luC_size, luC_size]) (one_luC 25 _) ?_)
      replace L1 : Has (w2.setRow w.heap.size (luC 25 (turnK (thetaN P) 24))) w.heap.size 24 (luC 25 (turnK (thetaN P) 24)) := L1.row
      replace LR : Has (w2.setRow w.heap.size (luC 25 (turnK (thetaN P) 24))) (w.heap.size + 1) 24 (luC 25 fun _ => 0) := (setRow_other (by omega)).trans LR
      replace HT := HT.row hw0 (luC 25 (turnK (thetaN P) 24))
      replace Q := below_row Q (Nat.le_refl _) (luC 25 (turnK (thetaN P) 24))
      obtain ⟨w3, hw3⟩ : ∃ w3, w2.setRow w.heap.size (luC 25 (turnK (thetaN P) 24)) = w3 := ⟨_, rfl⟩
      rw [hw3] at L1 LR HT Q ⊢
      clear hw3 H1
      refine (HMI.out w.heap.size _ htu _ L1).mono ?_
      rintro e w4 ⟨rfl, q⟩
      replace L1 := L1.later q
      replace LR := LR.later q
      replace HT := HT.later q
      replace Q := Q.trans (q.mono Q.size)
      clear q
      have H1 := Lib.hid L1
      have L2 := Lib.hid (show Has (w4.setRow w.heap.size (luC 25 (mixN (turnK (thetaN P) 24)))) w.heap.size 24 (luC 25 (mixN (turnK (thetaN P) 24))) from L1.row)
      replace LR : Has (w4.setRow w.heap.size (luC 25 (mixN (turnK (thetaN P) 24)))) (w.heap.size + 1) 24 (luC 25 fun _ => 0) := (setRow_other (by omega)).trans LR
      replace HT := HT.row hw0 (luC 25 (mixN (turnK (thetaN P) 24)))
      replace Q := below_row Q (Nat.le_refl _) (luC 25 (mixN (turnK (thetaN P) 24)))
      have c0 := L2.out.cell 0 _ (luC_get 25 _ 0 (by omega))
      have z0 := L2.out.frozen 0
      have hx := HX.out
      have N1 := Lib.hid (L2.out.set 0 (.int .u64 ((mixN (turnK (thetaN P) 24) 0 ^^^ c : Nat) : Int)))
      rw [luC_set 25 _ (permK A (k + 1)) 0 _ HSr.out] at N1
      have N2 := Lib.hid (LR.other (p := ⟨w.heap.size, 0, none⟩) (by simp) (.int .u64 ((mixN (turnK (thetaN P) 24) 0 ^^^ c : Nat) : Int)))
      have N3 := Lib.hid (HT.other (p := ⟨w.heap.size, 0, none⟩) hw0 (.int .u64 ((mixN (turnK (thetaN P) 24) 0 ^^^ c : Nat) : Int)))
      have N4 := Lib.hid (Q.setCell (p := ⟨w.heap.size, 0, none⟩) (Nat.le_refl _) (.int .u64 ((mixN (turnK (thetaN P) 24) 0 ^^^ c : Nat) : Int)))
      clear L1 LR HT Q HX HSr HC HS' hth htu hmi hP
      generalize mixN (turnK (thetaN P) 24) 0 ^^^ c = r at *
      generalize mixN (turnK (thetaN P) 24) 0 = m0 at *
      generalize mixN (turnK (thetaN P) 24) = M at *
      go_wp2_with (refine wpList_storeB rfl _ _ _ rfl w.heap.size (luC 25 M) rfl rfl _ _ H1.out (infoL _) (by rw [luC_size, luC_size]) (one_luC 25 _) ?_)
      go_roundw
      case rel => exact ⟨k + 1, by have := HLT.out; omega, by simp, N1.out, N2.out, N3.out, N4.out⟩
      case measure => simp [intOf]; omega
    · obtain rfl : k = 24 := by omega
      have HA := Lib.hid (load25 LA)
      have HR := Lib.hid LR
      have HQ := Lib.hid (below_row (B := w.heap.size + 1) Q (by omega) (luC 25 (permK A 24)))
      have HR2 : Hid (Has (wr.setRow (w.heap.size + 1) (luC 25 (permK A 24))) (w.heap.size + 1) 24 (luC 25 (permK A 24))) := Lib.hid LR.row
      clear LA LR HT Q hk hlt
      go_wp2_with (first | (refine wpList_loadB rfl _ _ rfl w.heap.size rfl _ HA.out ?_) | (refine wpList_storeB rfl _ _ _ rfl (w.heap.size + 1) (luC 25 (permK A 24)) rfl rfl _ _ HR.out (infoL _) (by rw [luC_size, luC_size]) (one_luC 25 _) ?_))
      refine bodyPost_ret (results_cell_row rfl _ _ (w.heap.size + 1) _ _ (0, 0) _ rfl HR2.out Tryd.underlying24 rfl (infoL _)) rfl ⟨rfl, HQ.out⟩
end Go.Proofs.YtobdjakflknlcaaDoor
