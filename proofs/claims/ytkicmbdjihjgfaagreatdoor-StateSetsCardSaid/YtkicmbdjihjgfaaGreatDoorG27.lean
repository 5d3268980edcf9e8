/- Permute: 24 rounds, by the table of the rounds' numbers. For all lanes. -/
import Derived.Test.YtkicmbdjihjgfaaGreatDoorG26
import Derived.Laws.MakeOwn
import Derived.Laws.IdiomStrings
set_option maxRecDepth 100000
set_option maxHeartbeats 16000000
open List (setIfInBounds_toArray set_cons_succ set_cons_zero)
namespace Go.Proofs.YtkicmbdjihjgfaaGreatDoor
open Go Go.RowKit Go.Shelf
attribute [local go_sem] Oper.semAt_some Grows wide_fn field0
structure Tab (W : World) : Prop where
 lt : 0 < W.heap.size
 cell : ∀ i, i < 24 → W.cell? ⟨0, i, none⟩ = some (.int .u64 ((rcL.getD i 0 : Nat) : Int))
theorem Tab.below {W W' : World} {n : Nat} (h : Tab W) (hb : Below n W W') (hn : 0 < n) : Tab W' := ⟨Nat.lt_of_lt_of_le h.lt hb.size, fun i hi => (hb.cell (p := ⟨0, i, none⟩) hn).trans (h.cell i hi)⟩
theorem Tab.later {W W' : World} (h : Tab W) (hb : Below W.heap.size W W') : Tab W' := h.below hb h.lt
theorem Tab.alloc {W : World} (h : Tab W) (o : Obj) : Tab (W.alloc o) := h.later ((Below.refl _ W).alloc (Nat.le_refl _) o)
theorem Tab.other {W : World} (h : Tab W) {p : Addr} (hp : 0 < p.block) (v : Value) : Tab (W.setCell p v) := h.below (n := 1) ((Below.refl 1 W).setCell hp v) (by omega)
theorem Tab.kept {W W' : World} {B : Nat} (h : Tab W) (hg : W.grownBy W' (some B)) (hB : 0 < B) : Tab W' := ⟨Nat.lt_of_lt_of_le h.lt hg.size, fun i hi => (World.cell?_of_block (w := W) (hg.block 0 h.lt (fun e => by cases e; omega))).trans (h.cell i hi)⟩
theorem Tab.row {W : World} {B : Nat} (h : Tab W) (hB : 0 < B) (cs : Array Value) : Tab (W.setRow B cs) := h.below (n := 1) (below_row (Below.refl 1 W) hB cs) (by omega)
theorem below_of_grown {w A X : World} {B : Nat} (h : Below w.heap.size w A) (hg : A.grownBy X (some B)) (hn : w.heap.size ≤ B) : Below w.heap.size w X :=
 ⟨hg.os.trans h.os, hg.tape.trans h.tape, hg.output.trans h.output, Nat.le_trans h.size hg.size, fun k hk => (hg.block k (Nat.lt_of_lt_of_le hk h.size) (fun e => by cases e; omega)).trans (h.block k hk)⟩
def RetT (P : Program) (f : FuncId) (args : Array Value) (v : Value) : Prop := ∀ w, Tab w → Calls P f args w fun e w' => e = .returned v ∧ Below w.heap.size w w'
def rcC : Array Value := (rcL.map fun n => Value.int .u64 ((n : Nat) : Int)).toArray
theorem rcC_size : rcC.size = 24 := rfl
theorem rcC_get (k : Nat) (hk : k < 24) : rcC[k]? = some (.int .u64 ((rcL.getD k 0 : Nat) : Int)) := by
 have hl : k < rcL.length := hk
 unfold rcC
 simp [List.getElem?_map, List.getD_eq_getElem?_getD, List.getElem?_eq_getElem hl]
theorem info24 : (Tryz.prog.info? 135).map (·.size) = some 24 := by kernel_rfl
theorem load24 {W : World} (h : Tab W) : (loadVar 135 ⟨0, 0, none⟩).run Tryz.prog W = .ok (.agg rcC) W := by
 have hl : (loadCells ⟨0, 0, none⟩ rcC.toList.length).run Tryz.prog W = .ok rcC.toList.toArray W :=
  run_loadCells_list (P := Tryz.prog) W ⟨0, 0, none⟩ rcC.toList (fun j v hv => by
   have hadd : (⟨0, 0, none⟩ : Addr).add j = ⟨0, j, none⟩ := by unfold Addr.add; split <;> simp_all
   have hj : j < 24 := by
    rcases Nat.lt_or_ge j 24 with h' | h'
    ·exact h'
    ·rw [List.getElem?_eq_none (show rcC.toList.length ≤ j from h')] at hv; cases hv
   have hg := rcC_get j hj
   rw [Array.getElem?_toList] at hv
   rw [hadd, h.cell j hj, ← hg, hv])
 have hi := info24
 cases hq : Tryz.prog.info? 135 with
 | none => simp [hq] at hi
 | some i =>
  have hs : i.size = 24 := by simpa [hq] using hi
  have hagg : (isAgg 135).run Tryz.prog W = .ok true W := by
   unfold isAgg
   rw [Sem.run_bind, run_underlying Tryz.underlying135 W]
   rfl
  have hl2 : (loadCells ⟨0, 0, none⟩ 24).run Tryz.prog W = .ok rcC W := by simpa [rcC_size] using hl
  simp [loadVar, Sem.run_bind, hagg, sizeOf, typeInfo, hq, hs, hl2]
theorem index24 (k : Nat) (hk : k < 24) (W : World) : (Instr.index 135 (.agg rcC) (.int .i64 (k : Int))).run Tryz.prog W = .ok (.int .u64 ((rcL.getD k 0 : Nat) : Int)) W := by
 have u := Tryz.underlying135
 have a3 := Tryz.isAgg26
 have z3 := Tryz.sizeOf26
 have hg := rcC_get k hk
 have hkI : (k : Int) < 24 := by omega
 unfold Instr.index
 simp only [Sem.run_bind, run_underlying u, Result.andThen_ok]
 simp [go_sem, part, asIntOf, a3, z3, hkI, hg]
theorem wpList_storeB {ops : Array Oper} {Q : Exit → Act → World → Prop} {a : Act} {w : World} {rest : List Oper} {o : Oper} (hg : o.guard = none) (ty : TypeId) (x y : Operand) (ho : o.op = .store ty x y) (B : Nat) (cells : Array Value)
  (hx : a.eval x = .pointer (some ⟨B, 0, none⟩)) (hy : a.eval y = .agg cells) (t : TypeId) (old : Array Value) (hh : Has w B t old) (hi : (Tryz.prog.info? ty).map (·.size) = some cells.size) (hold : old.size = cells.size) (h1 : cells.all (·.oneCell') = true)
  (h : wpList Tryz.prog ops Q rest (a.put o.dst undef) (w.setRow B cells)) : wpList Tryz.prog ops Q (o :: rest) a w :=
 wpList_store_row hg ty x y ho B cells hx hy t old hh hi hold h1 h
theorem wpList_loadB {ops : Array Oper} {Q : Exit → Act → World → Prop} {a : Act} {w : World} {rest : List Oper} {o : Oper} (hg : o.guard = none) (ty : TypeId) (x : Operand) (ho : o.op = .load ty x) (B : Nat) (hx : a.eval x = .pointer (some ⟨B, 0, none⟩)) (cs : Array Value) (hr : (loadVar ty ⟨B, 0, none⟩).run Tryz.prog w = .ok (.agg cs) w)
  (h : wpList Tryz.prog ops Q rest (a.put o.dst (.agg cs)) w) : wpList Tryz.prog ops Q (o :: rest) a w :=
 wpList_plain hg fun K hK => by
  unfold Oper.wp execOp
  simp only [ho, hx, Instr.loadAt, Instr.sureAddr, Sem.run_bind, Sem.run_pure, Result.andThen_ok, hr]
  exact hK _ _ h
theorem permK_succ (A : Nat → Nat) (k : Nat) (hk : k < 24) : permK A (k + 1) = rndN (permK A k) (rcL.getD k 0) := by
 have hl : k < rcL.length := hk
 unfold permK
 rw [List.take_add_one, List.foldl_append, List.getElem?_eq_getElem hl]
 simp [List.getD_eq_getElem?_getD, List.getElem?_eq_getElem hl]
theorem rc_lt (k : Nat) : rcL.getD k 0 < 2 ^ 64 := by
 rcases Nat.lt_or_ge k 24 with h | h
 ·have : ∀ j : Fin 24, rcL.getD j.val 0 < 2 ^ 64 := by decide
  exact this ⟨k, h⟩
 ·rw [List.getD_eq_getElem?_getD, List.getElem?_eq_none (show rcL.length ≤ k from h)]; decide
theorem rndN_lt (A : Nat → Nat) (hA : ∀ j, A j < 2 ^ 64) (c : Nat) (hc : c < 2 ^ 64) (j : Nat) : rndN A c j < 2 ^ 64 := by
 unfold rndN
 have h := mixN_lt _ (turnK_lt _ (thetaN_lt A hA) 24)
 split
 ·exact Nat.xor_lt_two_pow (h 0) hc
 ·exact h j
theorem permK_lt (A : Nat → Nat) (hA : ∀ j, A j < 2 ^ 64) : ∀ k, k ≤ 24 → ∀ j, permK A k j < 2 ^ 64
 | 0, _, j => hA j
 | k + 1, h, j => by rw [permK_succ A k (by omega)]; exact rndN_lt _ (permK_lt A hA k (by omega)) _ (rc_lt k) j
theorem permute_ret (A : Nat → Nat) (hA : ∀ j, A j < 2 ^ 64) : RetT Tryz.prog 79 #[.agg (luC 25 A)] (.agg (luC 25 (permN A))) := by
 intro w HT
 have hw0 := HT.lt
 have HTH := hid theta_calls
 have HTU := hid turned_calls
 have HMI := hid mixed_calls
 have HL := hid (permK_lt A hA)
 have HS := hid (permK_succ A)
 go_enter Tryz.func79, Tryz.ntmps79
 have LA := (Has.new w 112 (luC 25 A)).alloc (.cells #[.int .u64 0, .int .u64 0, .int .u64 0, .int .u64 0, .int .u64 0, .int .u64 0, .int .u64 0, .int .u64 0, .int .u64 0, .int .u64 0, .int .u64 0, .int .u64 0, .int .u64 0, .int .u64 0, .int .u64 0, .int .u64 0, .int .u64 0, .int .u64 0, .int .u64 0, .int .u64 0, .int .u64 0, .int .u64 0, .int .u64 0, .int .u64 0, .int .u64 0] 112)
 have LR := Has.new (w.alloc (.cells (luC 25 A) 112)) 112 #[.int .u64 0, .int .u64 0, .int .u64 0, .int .u64 0, .int .u64 0, .int .u64 0, .int .u64 0, .int .u64 0, .int .u64 0, .int .u64 0, .int .u64 0, .int .u64 0, .int .u64 0, .int .u64 0, .int .u64 0, .int .u64 0, .int .u64 0, .int .u64 0, .int .u64 0, .int .u64 0, .int .u64 0, .int .u64 0, .int .u64 0, .int .u64 0, .int .u64 0]
 simp only [World.size_alloc] at LR
 have HT := (HT.alloc (.cells (luC 25 A) 112)).alloc (.cells #[.int .u64 0, .int .u64 0, .int .u64 0, .int .u64 0, .int .u64 0, .int .u64 0, .int .u64 0, .int .u64 0, .int .u64 0, .int .u64 0, .int .u64 0, .int .u64 0, .int .u64 0, .int .u64 0, .int .u64 0, .int .u64 0, .int .u64 0, .int .u64 0, .int .u64 0, .int .u64 0, .int .u64 0, .int .u64 0, .int .u64 0, .int .u64 0, .int .u64 0] 112)
 have Q := ((Below.refl w.heap.size w).alloc (Nat.le_refl _) (.cells (luC 25 A) 112)).alloc (by simp) (.cells #[.int .u64 0, .int .u64 0, .int .u64 0, .int .u64 0, .int .u64 0, .int .u64 0, .int .u64 0, .int .u64 0, .int .u64 0, .int .u64 0, .int .u64 0, .int .u64 0, .int .u64 0, .int .u64 0, .int .u64 0, .int .u64 0, .int .u64 0, .int .u64 0, .int .u64 0, .int .u64 0, .int .u64 0, .int .u64 0, .int .u64 0, .int .u64 0, .int .u64 0] 112)
 have H24 := hid (load24 HT)
 go_wp2_with (refine wpList_loadB rfl _ _ rfl 0 rfl _ H24.out ?_)
 have Z0 : luC 25 (fun _ => 0) = #[.int .u64 0, .int .u64 0, .int .u64 0, .int .u64 0, .int .u64 0, .int .u64 0, .int .u64 0, .int .u64 0, .int .u64 0, .int .u64 0, .int .u64 0, .int .u64 0, .int .u64 0, .int .u64 0, .int .u64 0, .int .u64 0, .int .u64 0, .int .u64 0, .int .u64 0, .int .u64 0, .int .u64 0, .int .u64 0, .int .u64 0, .int .u64 0, .int .u64 0] := rfl
 obtain ⟨W0, hW0⟩ : ∃ W0, (w.alloc (.cells (luC 25 A) 112)).alloc (.cells #[.int .u64 0, .int .u64 0, .int .u64 0, .int .u64 0, .int .u64 0, .int .u64 0, .int .u64 0, .int .u64 0, .int .u64 0, .int .u64 0, .int .u64 0, .int .u64 0, .int .u64 0, .int .u64 0, .int .u64 0, .int .u64 0, .int .u64 0, .int .u64 0, .int .u64 0, .int .u64 0, .int .u64 0, .int .u64 0, .int .u64 0, .int .u64 0, .int .u64 0] 112) = W0 := ⟨_, rfl⟩
 rw [hW0] at LA LR HT Q ⊢
 rw [← Z0] at LR
 clear hW0 H24 Z0
 go_loopw [6] (fun i wr => ∃ k : Nat, k ≤ 24 ∧ i = .int .i64 (k : Int) ∧ Has wr w.heap.size 112 (luC 25 (permK A k)) ∧ Has wr (w.heap.size + 1) 112 (luC 25 fun _ => 0) ∧ Tab wr ∧ Below w.heap.size w wr) (fun i _ => 24 - (intOf i).toNat)
 case atStart => exact ⟨0, by omega, rfl, LA, LR, HT, Q⟩
 case round =>
  clear LA LR HT Q
  obtain ⟨k, hk, rfl, LA, LR, HT, Q⟩ := hrel
  by_cases hlt : k < 24
  ·have hkI : (k : Int) < 24 := by omega
   have hix := index24 k hlt wr
   have HC := hid (rc_lt k)
   have hP := HL.out k (by omega)
   have HS' := hid (HS.out k hlt)
   have HLT := hid hlt
   clear hk hlt HL HS
   generalize hPe : permK A k = P at *
   clear hPe
   generalize rcL.getD k 0 = c at *
   have hth := fun j => thetaN_lt P hP j
   have htu := fun j => turnK_lt _ hth 24 j
   have hmi := fun j => mixN_lt _ htu j
   have HX := hid (xor_i (mixN (turnK (thetaN P) 24) 0) c (hmi 0) HC.out)
   have HSr : Hid (∀ i, i < 25 → permK A (k + 1) i = if i = 0 then mixN (turnK (thetaN P) 24) 0 ^^^ c else mixN (turnK (thetaN P) 24) i) := hid (fun i _ => by rw [HS'.out]; rfl)
   go_wp2_with fail
   refine (HTH.out w.heap.size P hP _ LA).mono ?_
   rintro e w1 ⟨⟨v1, rfl⟩, L1, G⟩
   replace LR := LR.kept G (by simp)
   replace HT := HT.kept G hw0
   replace Q := below_of_grown Q G (Nat.le_refl _)
   clear G LA hix
   go_wp2_with fail
   refine (HTU.out w.heap.size _ hth _ L1).mono ?_
   rintro e w2 ⟨rfl, q⟩
   replace L1 := L1.later q
   replace LR := LR.later q
   replace HT := HT.later q
   replace Q := Q.trans (q.mono Q.size)
   clear q
   have H1 := hid L1
   go_wp2_with (refine wpList_storeB rfl _ _ _ rfl w.heap.size (luC 25 (turnK (thetaN P) 24)) rfl rfl _ _ H1.out (infoL _) (by rw [luC_size, luC_size]) (one_luC 25 _) ?_)
   replace L1 : Has (w2.setRow w.heap.size (luC 25 (turnK (thetaN P) 24))) w.heap.size 112 (luC 25 (turnK (thetaN P) 24)) := L1.rowK
   replace LR : Has (w2.setRow w.heap.size (luC 25 (turnK (thetaN P) 24))) (w.heap.size + 1) 112 (luC 25 fun _ => 0) := (setRow_other (by omega)).trans LR
   replace HT := HT.row hw0 (luC 25 (turnK (thetaN P) 24))
   replace Q := below_row Q (Nat.le_refl _) (luC 25 (turnK (thetaN P) 24))
   obtain ⟨w3, hw3⟩ : ∃ w3, w2.setRow w.heap.size (luC 25 (turnK (thetaN P) 24)) = w3 := ⟨_, rfl⟩
   rw [hw3] at L1 LR HT Q ⊢
   clear hw3 H1
   refine (HMI.out w.heap.size _ htu _ L1).mono ?_
   rintro e w4 ⟨rfl, q⟩
   replace L1 := L1.later q
   replace LR := LR.later q
   replace HT := HT.later q
   replace Q := Q.trans (q.mono Q.size)
   clear q
   have H1 := hid L1
   have L2 := hid (show Has (w4.setRow w.heap.size (luC 25 (mixN (turnK (thetaN P) 24)))) w.heap.size 112 (luC 25 (mixN (turnK (thetaN P) 24))) from L1.rowK)
   replace LR : Has (w4.setRow w.heap.size (luC 25 (mixN (turnK (thetaN P) 24)))) (w.heap.size + 1) 112 (luC 25 fun _ => 0) := (setRow_other (by omega)).trans LR
   replace HT := HT.row hw0 (luC 25 (mixN (turnK (thetaN P) 24)))
   replace Q := below_row Q (Nat.le_refl _) (luC 25 (mixN (turnK (thetaN P) 24)))
   have c0 := L2.out.cell 0 _ (luC_get 25 _ 0 (by omega))
   have z0 := L2.out.frozen 0
   have hx := HX.out
   have N1 := hid (L2.out.set 0 (.int .u64 ((mixN (turnK (thetaN P) 24) 0 ^^^ c : Nat) : Int)))
   rw [luC_set 25 _ (permK A (k + 1)) 0 _ HSr.out] at N1
   have N2 := hid (LR.other (p := ⟨w.heap.size, 0, none⟩) (by simp) (.int .u64 ((mixN (turnK (thetaN P) 24) 0 ^^^ c : Nat) : Int)))
   have N3 := hid (HT.other (p := ⟨w.heap.size, 0, none⟩) hw0 (.int .u64 ((mixN (turnK (thetaN P) 24) 0 ^^^ c : Nat) : Int)))
   have N4 := hid (Q.setCell (p := ⟨w.heap.size, 0, none⟩) (Nat.le_refl _) (.int .u64 ((mixN (turnK (thetaN P) 24) 0 ^^^ c : Nat) : Int)))
   clear L1 LR HT Q HX HSr HC HS' hth htu hmi hP
   generalize mixN (turnK (thetaN P) 24) 0 ^^^ c = r at *
   generalize mixN (turnK (thetaN P) 24) 0 = m0 at *
   generalize mixN (turnK (thetaN P) 24) = M at *
   go_wp2_with (refine wpList_storeB rfl _ _ _ rfl w.heap.size (luC 25 M) rfl rfl _ _ H1.out (infoL _) (by rw [luC_size, luC_size]) (one_luC 25 _) ?_)
   go_roundw
   case rel => exact ⟨k + 1, by have := HLT.out; omega, by simp, N1.out, N2.out, N3.out, N4.out⟩
   case measure => simp [intOf]; omega
  ·obtain rfl : k = 24 := by omega
   have HA := hid (load25 LA)
   have HR := hid LR
   have HQ := hid (below_row (B := w.heap.size + 1) Q (by omega) (luC 25 (permK A 24)))
   have HR2 : Hid (Has (wr.setRow (w.heap.size + 1) (luC 25 (permK A 24))) (w.heap.size + 1) 112 (luC 25 (permK A 24))) := hid LR.rowK
   clear LA LR HT Q hk hlt
   go_wp2_with (first | (refine wpList_loadB rfl _ _ rfl w.heap.size rfl _ HA.out ?_) | (refine wpList_storeB rfl _ _ _ rfl (w.heap.size + 1) (luC 25 (permK A 24)) rfl rfl _ _ HR.out (infoL _) (by rw [luC_size, luC_size]) (one_luC 25 _) ?_))
   refine bodyPost_ret (results_cell_row rfl _ _ (w.heap.size + 1) _ _ (0, 0) _ rfl HR2.out Tryz.underlying112 rfl (infoL _)) rfl ⟨rfl, HQ.out⟩
def ubC (n : Nat) (A : Nat → Nat) : Array Value := ((List.range n).map fun i => Value.int .u8 ((A i : Nat) : Int)).toArray
theorem ubC_get (n : Nat) (A : Nat → Nat) (j : Nat) (h : j < n) : (ubC n A)[j]? = some (.int .u8 ((A j : Nat) : Int)) := by simp [ubC, h]
theorem ubC_congr (n : Nat) (A B : Nat → Nat) (h : ∀ j, j < n → A j = B j) : ubC n A = ubC n B := by
 unfold ubC
 congr 1
 refine List.map_congr_left (fun i hi => ?_)
 rw [h i (List.mem_range.1 hi)]
theorem ubC_set (n : Nat) (A B : Nat → Nat) (k v : Nat) (hB : ∀ j, j < n → B j = if j = k then v else A j) : (ubC n A).setIfInBounds k (.int .u8 ((v : Nat) : Int)) = ubC n B := by
 refine Array.ext (by simp [ubC]) (fun i h1 h2 => ?_)
 have hi : i < n := by simpa [ubC] using h2
 rw [Array.getElem_setIfInBounds (by simpa [ubC] using hi)]
 simp only [ubC, List.getElem_toArray, List.getElem_map, List.getElem_range]
 rw [hB i hi]
 by_cases e : k = i
 ·rw [if_pos e, if_pos e.symm]
 ·rw [if_neg e, if_neg (fun h => e h.symm)]
theorem made_ubC (n : Nat) : madeCells #[.int .u8 0] n = ubC n fun _ => 0 := by
 refine Array.ext (by simp [madeCells, ubC]) (fun i h1 h2 => ?_)
 simp [madeCells, ubC, Nat.mod_one]
theorem infoBK : (Tryz.prog.info? 5).map (fun i => (i.zero, i.size, i.bytes)) = some (some (.int .u8 0), 1, 1) := by kernel_rfl
theorem info_parts {t : TypeId} {v : Value} {m n : Nat} (h : (Tryz.prog.info? t).map (fun i => (i.zero, i.size, i.bytes)) = some (some v, m, n)) : ∃ i, Tryz.prog.info? t = some i ∧ i.zero = some v ∧ i.size = m ∧ i.bytes = n := by
 cases hi : Tryz.prog.info? t with
 | none => rw [hi] at h; cases h
 | some i =>
  rw [hi] at h
  simp at h
  exact ⟨i, rfl, h.1, h.2.1, h.2.2⟩
theorem run_mkB (W : World) (n : Nat) (hn : n ≤ 1073741824) : (Instr.makeSlice 97 (.int .i64 (n : Int)) (.int .i64 (n : Int))).run Tryz.prog W = .ok (.slice (some ⟨W.heap.size, 0, none⟩) n n) (W.alloc (.cells (ubC n fun _ => 0) 5)) := by
 obtain ⟨i0, hi, hz0, hz1, hz2⟩ := info_parts infoBK
 have h := run_make (P := Tryz.prog) W 97 5 i0 (.int .u8 0) Tryz.underlying97 hi hz0 .i64 .i64 (n : Int) (n : Int) (by omega) (by omega) (by rw [hz2]; omega) (by omega)
 rw [hz1, Nat.mul_one, Int.toNat_natCast, show Value.cells (.int .u8 0) = #[.int .u8 0] from rfl, made_ubC] at h
 exact h
def pcN (m j : Nat) : Nat := (if j = 0 then 1 else 0) + (if j = m then 128 else 0)
theorem pcN_lt (m j : Nat) : pcN m j < 256 := by unfold pcN; split <;> split <;> omega
theorem pcN_at (m j : Nat) : pcN m j = if j = m then pcN m m else if j = 0 then 1 else 0 := by
 by_cases e : j = m
 ·subst e; rw [if_pos rfl]
 ·rw [if_neg e]; unfold pcN; rw [if_neg e, Nat.add_zero]
def pcL (m : Nat) : List UInt8 := (List.range (m + 1)).map fun j => UInt8.ofNat (pcN m j)
def pmN (s : ByteArray) : Nat := 135 - s.size % 136
def padS (s : ByteArray) : ByteArray := s ++ ⟨(pcL (pmN s)).toArray⟩
theorem conv_backT {W : World} {g m cap : Nat} {t : TypeId} {A : Nat → Nat} (hA : ∀ j, A j < 256) (h : Has W g t (ubC m A)) : (convert 97 9 (.slice (some ⟨g, 0, none⟩) m cap)).run Tryz.prog W = .ok (.string ⟨((List.range m).map fun j => UInt8.ofNat (A j)).toArray⟩) W := by
 have hl : ((List.range m).map fun j => UInt8.ofNat (A j)).length = m := by simp
 have h2 := run_convert_bytes_back (P := Tryz.prog) W 97 9 5 ⟨g, 0, none⟩ cap ((List.range m).map fun j => UInt8.ofNat (A j)) Tryz.underlying97 Tryz.underlying5 Tryz.underlying9 (fun j hj => by
  have hj2 : j < m := by simpa using hj
  have hadd : (⟨g, 0, none⟩ : Addr).add j = ⟨g, j, none⟩ := by unfold Addr.add; split <;> simp_all
  rw [hadd, h.cell j _ (ubC_get m A j hj2)]
  congr 2
  simp only [List.getElem_map, List.getElem_range]
  rw [UInt8.toNat_ofNat', Nat.mod_eq_of_lt (show A j < 2 ^ 8 from hA j)])
 rw [hl] at h2
 exact h2
theorem conv_back {W : World} {g m cap : Nat} {A : Nat → Nat} (hA : ∀ j, A j < 256) (h : Has W g 5 (ubC m A)) : (convert 97 9 (.slice (some ⟨g, 0, none⟩) m cap)).run Tryz.prog W = .ok (.string ⟨((List.range m).map fun j => UInt8.ofNat (A j)).toArray⟩) W := conv_backT hA h
theorem pad_ret (s : ByteArray) (hs : s.size ≤ 1073741824) : Ret Tryz.prog 77 #[.string s] (.string (padS s)) := by
 intro w
 have hr : s.size % 136 < 136 := Nat.mod_lt _ (by omega)
 have e1 : ((s.size : Nat) : Int).tmod 136 = ((s.size % 136 : Nat) : Int) := by rw [Int.tmod_eq_emod_of_nonneg (by omega)]; omega
 have e2 : (136 : Int) - ((s.size % 136 : Nat) : Int) = ((pmN s + 1 : Nat) : Int) := by unfold pmN; omega
 have hm : pmN s < 136 := by unfold pmN; omega
 have hmk := run_mkB w (pmN s + 1) (by omega)
 have LM := Has.new w 5 (ubC (pmN s + 1) fun _ => 0)
 have Q := (Below.refl w.heap.size w).alloc (Nat.le_refl _) (.cells (ubC (pmN s + 1) fun _ => 0) 5)
 obtain ⟨W1, hW1⟩ : ∃ W1, w.alloc (.cells (ubC (pmN s + 1) fun _ => 0) 5) = W1 := ⟨_, rfl⟩
 rw [hW1] at hmk LM Q
 clear hW1
 have HP : Hid (padS s = s ++ ⟨(pcL (pmN s)).toArray⟩) := hid rfl
 have hz0 := LM.cell 0 _ (ubC_get _ _ 0 (by omega))
 have hf0 := LM.frozen 0
 have L1 := LM.set 0 (.int .u8 ((1 : Nat) : Int))
 have hsl : ((s.size : Nat) : Int) ≤ 1073741824 := by omega
 generalize pmN s = m at *
 rw [ubC_set (m + 1) _ (fun j => if j = 0 then 1 else 0) 0 1 (fun j _ => rfl)] at L1
 have hv0 : (if m = 0 then 1 else 0) ≤ 1 := by split <;> omega
 have hpm : pcN m m = (if m = 0 then 1 else 0) + 128 := by unfold pcN; rw [if_pos rfl]
 have hcm := L1.cell m _ (ubC_get _ _ m (by omega))
 have hL := L1.set m (.int .u8 ((pcN m m : Nat) : Int))
 rw [ubC_set (m + 1) _ (pcN m) m (pcN m m) (fun j _ => pcN_at m j), hpm] at hL
 generalize (if m = 0 then 1 else 0 : Nat) = v0 at *
 have hcv := conv_back (cap := m + 1) (pcN_lt m) hL
 have hfm := L1.frozen m
 have HQ := hid ((Q.setCell (p := ⟨w.heap.size, 0, none⟩) (Nat.le_refl _) (.int .u8 1)).setCell (p := ⟨w.heap.size, m, none⟩) (Nat.le_refl _) (.int .u8 ((v0 + 128 : Nat) : Int)))
 have hmI : (m : Int) < 136 := by omega
 have hvI : (v0 : Int) ≤ 1 := by omega
 have e3 : (136 : Int) - ((s.size % 136 : Nat) : Int) = (m : Int) + 1 := by omega
 rw [show ((m + 1 : Nat) : Int) = (m : Int) + 1 from rfl] at hmk
 simp only [Int.natCast_add, Int.natCast_one, Int.cast_ofNat_Int] at hcv HQ hz0 hcm hf0 hfm
 change (convert _ _ (.slice _ (m + 1) (m + 1))).run _ _ = .ok (.string ⟨(pcL m).toArray⟩) _ at hcv
 have hpl : ¬ 9223372036854775807 < s.size + (pcL m).length := by simp [pcL]; omega
 clear LM Q L1 hL hs e2 hm hpm hv0
 generalize ((s.size % 136 : Nat) : Int) = r at *
 generalize pcL m = pl at *
 go_enter Tryz.func77, Tryz.ntmps77
 go_wp2
 go_ret
 rw [HP.out]
 exact ⟨rfl, HQ.out⟩
theorem lt_of_cell {W : World} {b j : Nat} {v : Value} (h : W.cell? ⟨b, j, none⟩ = some v) : b < W.heap.size := by
 rcases Nat.lt_or_ge b W.heap.size with h' | h'
 ·exact h'
 ·simp [World.cell?, Array.getElem?_eq_none h'] at h
theorem chunk_any (g n cap : Nat) (w : World) :
  Calls Tryz.prog 76 #[.slice (some ⟨g, 0, none⟩) n cap, .int .i64 136] w fun e w' => e = .returned (.func (.func 104) #[] #[.pointer (some ⟨w.heap.size, 0, none⟩), .pointer (some ⟨w.heap.size + 1, 0, none⟩)]) ∧ w' = (w.alloc (.cells #[.slice (some ⟨g, 0, none⟩) n cap] 97)).alloc (.cells #[.int .i64 136] 3) := by
 have L := (Has.new (w.alloc (.cells #[.slice (some ⟨g, 0, none⟩) n cap] 97)) 3 #[.int .i64 136])
 simp only [World.size_alloc] at L
 have k0 := L.cell 0 _ rfl
 clear L
 go_enter Tryz.func76, Tryz.ntmps76
 go_wp2
 go_ret
 exact ⟨rfl, rfl⟩
theorem chunk_seq (n : Nat) (hn : 1 ≤ n) (N g cap b c : Nat) (hN : N ≤ 7895160) (hcap : 136 * N ≤ cap) (hmax : cap ≤ 9223372036854775807) (w : World) (hb : b < w.heap.size) (hcl : c < w.heap.size)
  (kb : w.cell? ⟨b, 0, none⟩ = some (.slice (some ⟨g, 0, none⟩) (136 * N) cap)) (kc : w.cell? ⟨c, 0, none⟩ = some (.int .i64 136)) :
  SeqN Fence.wide n Tryz.prog 104 #[.pointer (some ⟨b, 0, none⟩), .pointer (some ⟨c, 0, none⟩)] (fun k => #[.slice (some ⟨g, 136 * k, none⟩) 136 136]) (KeepsAt [b, c]) N w := by
 intro l J Jx W hW hJA _ hY h0
 have HA := hid hJA
 have HY := hid hY
 clear hJA hY
 have kb' := (hW.cell (p := ⟨b, 0, none⟩) hb).trans kb
 have kc' := (hW.cell (p := ⟨c, 0, none⟩) hcl).trans kc
 clear kb kc
 have hmx : Tryz.prog.follows .mixedOrders = true := by kernel_rfl
 refine callsIn_of_wp Tryz.func104 rfl trivial ?_ rfl
 simp only [Tryz.ntmps104, List.size_toArray, List.length_cons, List.length_nil, Nat.reduceAdd, Nat.reduceSub, Array.replicate_succ, Array.replicate_zero, List.push_toArray, List.append_toArray, List.nil_append, List.cons_append]
 gi_wp2
 gi_loopw [4] (fun i wr => ∃ k : Nat, k ≤ N ∧ i = .int .i64 ((136 * k : Nat) : Int) ∧ J k wr ∧ KeepsAt [b, c] W wr) (fun i _ => 136 * N - (intOf i).toNat)
 case atStart => exact ⟨0, Nat.zero_le _, rfl, h0, KeepsAt.refl _ _⟩
 case round =>
  obtain ⟨k, hk, rfl, hJs, hnx⟩ := hrel
  have kbx := (hnx.cell (p := ⟨b, 0, none⟩) (by simp)).trans kb'
  have kcx := (hnx.cell (p := ⟨c, 0, none⟩) (by simp)).trans kc'
  clear kb' kc'
  by_cases hlt : k < N
  ·have hstep : ((136 * (k + 1) : Nat) : Int) = ((136 * k : Nat) : Int) + 136 := by omega
   have h1 : ((136 * k : Nat) : Int) + 136 ≤ ((136 * N : Nat) : Int) := by omega
   have h2 : ((136 * N : Nat) : Int) ≤ (cap : Int) := by omega
   have h3 : (cap : Int) ≤ 9223372036854775807 := by omega
   have HLT := hid hlt
   have HST := hid hstep
   have lb := lt_of_cell kbx
   have lc := lt_of_cell kcx
   have HNX := hid hnx
   have HJ := hid hJs
   have ex : ∀ x : Ext wr, x.w.cell? ⟨b, 0, none⟩ = some (.slice (some ⟨g, 0, none⟩) (136 * N) cap) := fun x => (x.below.cell (p := ⟨b, 0, none⟩) lb).trans kbx
   have ey : ∀ x : Ext wr, x.w.cell? ⟨c, 0, none⟩ = some (.int .i64 136) := fun x => (x.below.cell (p := ⟨c, 0, none⟩) lc).trans kcx
   have HYk := hid (HY.out k)
   clear hk hlt hstep hnx hJs
   generalize 136 * N = n1 at *
   generalize 136 * k = i at *
   gi_wp2_with fail
   refine wpIn_region_mix (C := Grows wr) free_wide [some true, some true, some true, some true, some true, some true, none] hmx (by kernel_rfl) (by kernel_rfl) (grows_refl wr) ?_
   simp only [headOf, tailOf]
   repeat (go_big_quiet_step (fail))
   refine wpQuiet_nil ?_
   rintro _ ⟨x, rfl⟩
   have hJ2 := HA.out k wr x.w none HJ.out (grown_of_below x.below none) (fun r e => by cases e)
   have hK2 := hid (HNX.out.trans (KeepsAt.below (KeepsAt.refl _ _) x.below (fun b' hb' => by simp at hb'; rcases hb' with rfl | rfl <;> assumption)))
   obtain ⟨fn, tmps, assign, body, hy, hR⟩ := HYk.out x.w HLT.out hJ2
   have ex' := ex x
   have ey' := ey x
   clear ex ey hJ2 kbx kcx lb lc
   go_wp2
   rw [calmPost_normal]
   gi_wp2
   refine hR.mono ?_
   rintro e W3 (⟨rfl, hJ3, hk3⟩ | ⟨rfl, hJx3⟩)
   ·have ey3 := (hk3.cell (p := ⟨c, 0, none⟩) (by simp)).trans ey'
    have HJ3 := hid hJ3
    have HK3 := hid hk3
    clear ex' ey' hk3 hJ3
    gi_wp2
    go_roundw
    case rel => exact ⟨k + 1, HLT.out, by rw [HST.out], HJ3.out, hK2.out.trans HK3.out⟩
    case measure => simp [intOf]; omega
   ·gi_wp2
    refine bodyPost_ret (results_none rfl _ _ _) rfl ?_
    exact ⟨⟨_, rfl⟩, .inr ⟨k, HLT.out, hJx3⟩⟩
  ·obtain rfl : k = N := by omega
   gi_wp2
   go_end0
   exact ⟨⟨_, rfl⟩, .inl hJs⟩
def absN (A D : Nat → Nat) : Nat → Nat → Nat
 | 0, j => A j
 | k + 1, j => if j = k / 8 then absN A D k j ^^^ (D k * 2 ^ (8 * (k % 8))) else absN A D k j
theorem sh_lt (d k : Nat) (hd : d < 256) : d * 2 ^ (8 * (k % 8)) < 2 ^ 64 := by
 have h : 8 * (k % 8) ≤ 56 := by omega
 calc d * 2 ^ (8 * (k % 8)) ≤ d * 2 ^ 56 := Nat.mul_le_mul_left _ (Nat.pow_le_pow_right (by omega) h)
  _ < 2 ^ 64 := by omega
theorem absN_lt (A D : Nat → Nat) (hA : ∀ j, A j < 2 ^ 64) (hD : ∀ j, D j < 256) : ∀ k j, absN A D k j < 2 ^ 64
 | 0, j => hA j
 | k + 1, j => by
  unfold absN
  split
  ·exact Nat.xor_lt_two_pow (absN_lt A D hA hD k j) (sh_lt _ _ (hD k))
  ·exact absN_lt A D hA hD k j
theorem absorb_calls (B g o : Nat) (A D : Nat → Nat) (hA : ∀ j, A j < 2 ^ 64) (hD : ∀ j, D j < 256) (hg : g ≠ B) (w : World) (hB : Has w B 112 (luC 25 A)) (hc : ∀ j, j < 136 → w.cell? ⟨g, o + j, none⟩ = some (.int .u8 ((D j : Nat) : Int))) :
  Calls Tryz.prog 78 #[.pointer (some ⟨B, 0, none⟩), .slice (some ⟨g, o, none⟩) 136 136] w fun e w' => (∃ v, e = .returned v) ∧ Has w' B 112 (luC 25 (absN A D 136)) ∧ w.grownBy w' (some B) := by
 have hgl := lt_of_cell (hc 0 (by omega))
 have hmx : Tryz.prog.follows .mixedOrders = true := by kernel_rfl
 have G := grown_of_below (Below.refl w.heap.size w) (some B)
 go_enter Tryz.func78, Tryz.ntmps78
 go_wp2
 go_loopw [8] (fun i wr => ∃ k : Nat, k ≤ 136 ∧ i = .int .i64 (k : Int) ∧ Has wr B 112 (luC 25 (absN A D k)) ∧ w.grownBy wr (some B)) (fun i _ => 136 - (intOf i).toNat)
 case atStart => exact ⟨0, by omega, rfl, hB, G⟩
 case round =>
  clear G
  obtain ⟨k, hk, rfl, LA, G⟩ := hrel
  by_cases hlt : k < 136
  ·have hkI : (k : Int) < 136 := by omega
   have kd : wr.cell? ⟨g, o + k, none⟩ = some (.int .u8 ((D k : Nat) : Int)) := (World.cell?_of_block (w := w) (G.block g hgl (fun e => hg (Option.some.inj e)))).trans (hc k hlt)
   have e1 : (k : Int).tdiv 8 = ((k / 8 : Nat) : Int) := by rw [Int.tdiv_eq_ediv_of_nonneg (by omega)]; omega
   have e2 : (k : Int).tmod 8 = ((k % 8 : Nat) : Int) := by rw [Int.tmod_eq_emod_of_nonneg (by omega)]; omega
   have e3 : ((k % 8 : Nat) : Int) * 8 = ((8 * (k % 8) : Nat) : Int) := by omega
   have hw : IntKind.u64.wrap ((D k : Int) * 2 ^ (8 * (k % 8))) = ((D k * 2 ^ (8 * (k % 8)) : Nat) : Int) := by
    have := sh_lt (D k) k (hD k)
    rw [IntKind.wrap_u64, show ((D k : Int) * 2 ^ (8 * (k % 8))) = ((D k * 2 ^ (8 * (k % 8)) : Nat) : Int) by rw [Int.natCast_mul, Int.natCast_pow]; rfl]
    omega
   have hx := xor_i (absN A D k (k / 8)) (D k * 2 ^ (8 * (k % 8))) (absN_lt A D hA hD k _) (sh_lt _ _ (hD k))
   have hS' : ∀ i, i < 25 → absN A D (k + 1) i = if i = k / 8 then absN A D k (k / 8) ^^^ (D k * 2 ^ (8 * (k % 8))) else absN A D k i := fun i _ => by
    show (if i = k / 8 then absN A D k i ^^^ (D k * 2 ^ (8 * (k % 8))) else absN A D k i) = _
    by_cases e : i = k / 8
    ·rw [if_pos e, if_pos e, e]
    ·rw [if_neg e, if_neg e]
   have h8 : k / 8 < 25 := by omega
   have hs64 : 8 * (k % 8) < 64 := by omega
   have hd8 := hD k
   have kA : ∀ x : Ext wr, x.w.cell? ⟨B, k / 8, none⟩ = some (.int .u64 ((absN A D k (k / 8) : Nat) : Int)) := fun x => (LA.later x.below).cell _ _ (luC_get 25 _ _ h8)
   have kz : ∀ x : Ext wr, x.w.frozen? ⟨B, k / 8, none⟩ = false := fun x => (LA.later x.below).frozen _
   have HLT := hid hlt
   have HA := hid LA
   have HG := hid G
   clear hlt hk LA G hc hB
   generalize absN A D k (k / 8) ^^^ (D k * 2 ^ (8 * (k % 8))) = r at *
   generalize absN A D k (k / 8) = c at *
   generalize D k * 2 ^ (8 * (k % 8)) = v at *
   generalize D k = d at *
   generalize 8 * (k % 8) = s at *
   generalize k % 8 = k8 at *
   generalize k / 8 = i8 at *
   have hd8I : (d : Int) < 256 := by omega
   have hsI : (s : Int) < 64 := by omega
   have h8I : (i8 : Int) < 25 := by omega
   have HS' := hid hS'
   clear hS' h8 hs64 hd8 hA hD
   go_wp2_with fail
   refine wp_region_mix (C := Grows wr) [some true, some true, some true, some true, some true, some true, some true, some true, some true, some true, some true, some true, some true, some true, some true, none] hmx (by kernel_rfl) (by kernel_rfl) (grows_refl wr) ?_
   simp only [headOf, tailOf]
   repeat (go_big_quiet_step (fail))
   refine wpQuiet_nil ?_
   rintro _ ⟨x, rfl⟩
   have N1 := (HA.out.later x.below).set i8 (.int .u64 ((r : Nat) : Int))
   rw [luC_set 25 _ (absN A D (k + 1)) i8 r HS'.out] at N1
   have H1 := hid N1
   have H2 := hid (grown_set (grown_then_below HG.out x.below) (p := ⟨B, i8, none⟩) (.inl rfl) (.int .u64 ((r : Nat) : Int)))
   have kA' := kA x
   have kz' := kz x
   clear kA kz kd N1
   go_wp2
   rw [calmPost_normal]
   go_wp2
   go_roundw
   case rel => exact ⟨k + 1, by have := HLT.out; omega, by simp, H1.out, H2.out⟩
   case measure => simp [intOf]; omega
  ·obtain rfl : k = 136 := by omega
   have H1 := hid LA
   have H2 := hid G
   clear LA G hk hlt hc hB
   go_wp2
   go_end0
   exact ⟨⟨_, rfl⟩, H1.out, H2.out⟩
def sqB (A : Nat → Nat) (j : Nat) : Nat := A (j / 8) / 2 ^ (8 * (j % 8)) % 256
theorem sqB_lt (A : Nat → Nat) (j : Nat) : sqB A j < 256 := Nat.mod_lt _ (by omega)
def sqK (A : Nat → Nat) (k j : Nat) : Nat := if j < k then sqB A j else 0
def sqS (A : Nat → Nat) : ByteArray := ⟨((List.range 32).map fun j => UInt8.ofNat (sqB A j)).toArray⟩
theorem squeezed_calls (B : Nat) (A : Nat → Nat) (w : World) (hB : Has w B 112 (luC 25 A)) :
  Calls Tryz.prog 80 #[.pointer (some ⟨B, 0, none⟩)] w fun e w' => e = .returned (.string (sqS A)) ∧ Below w.heap.size w w' := by
 have hBl := hB.lt
 have HP : Hid (sqS A = ⟨((List.range 32).map fun j => UInt8.ofNat (sqB A j)).toArray⟩) := hid rfl
 have LB := hB.alloc (.cells #[.int .u8 0, .int .u8 0, .int .u8 0, .int .u8 0, .int .u8 0, .int .u8 0, .int .u8 0, .int .u8 0, .int .u8 0, .int .u8 0, .int .u8 0, .int .u8 0, .int .u8 0, .int .u8 0, .int .u8 0, .int .u8 0, .int .u8 0, .int .u8 0, .int .u8 0, .int .u8 0, .int .u8 0, .int .u8 0, .int .u8 0, .int .u8 0, .int .u8 0, .int .u8 0, .int .u8 0, .int .u8 0, .int .u8 0, .int .u8 0, .int .u8 0, .int .u8 0] 138)
 have LO := Has.new w 138 #[.int .u8 0, .int .u8 0, .int .u8 0, .int .u8 0, .int .u8 0, .int .u8 0, .int .u8 0, .int .u8 0, .int .u8 0, .int .u8 0, .int .u8 0, .int .u8 0, .int .u8 0, .int .u8 0, .int .u8 0, .int .u8 0, .int .u8 0, .int .u8 0, .int .u8 0, .int .u8 0, .int .u8 0, .int .u8 0, .int .u8 0, .int .u8 0, .int .u8 0, .int .u8 0, .int .u8 0, .int .u8 0, .int .u8 0, .int .u8 0, .int .u8 0, .int .u8 0]
 have Q := (Below.refl w.heap.size w).alloc (Nat.le_refl _) (.cells #[.int .u8 0, .int .u8 0, .int .u8 0, .int .u8 0, .int .u8 0, .int .u8 0, .int .u8 0, .int .u8 0, .int .u8 0, .int .u8 0, .int .u8 0, .int .u8 0, .int .u8 0, .int .u8 0, .int .u8 0, .int .u8 0, .int .u8 0, .int .u8 0, .int .u8 0, .int .u8 0, .int .u8 0, .int .u8 0, .int .u8 0, .int .u8 0, .int .u8 0, .int .u8 0, .int .u8 0, .int .u8 0, .int .u8 0, .int .u8 0, .int .u8 0, .int .u8 0] 138)
 go_enter Tryz.func80, Tryz.ntmps80
 go_wp2
 obtain ⟨W0, hW0⟩ : ∃ W0, w.alloc (.cells #[.int .u8 0, .int .u8 0, .int .u8 0, .int .u8 0, .int .u8 0, .int .u8 0, .int .u8 0, .int .u8 0, .int .u8 0, .int .u8 0, .int .u8 0, .int .u8 0, .int .u8 0, .int .u8 0, .int .u8 0, .int .u8 0, .int .u8 0, .int .u8 0, .int .u8 0, .int .u8 0, .int .u8 0, .int .u8 0, .int .u8 0, .int .u8 0, .int .u8 0, .int .u8 0, .int .u8 0, .int .u8 0, .int .u8 0, .int .u8 0, .int .u8 0, .int .u8 0] 138) = W0 := ⟨_, rfl⟩
 rw [hW0] at LB LO Q ⊢
 clear hW0
 rw [show (#[.int .u8 0, .int .u8 0, .int .u8 0, .int .u8 0, .int .u8 0, .int .u8 0, .int .u8 0, .int .u8 0, .int .u8 0, .int .u8 0, .int .u8 0, .int .u8 0, .int .u8 0, .int .u8 0, .int .u8 0, .int .u8 0, .int .u8 0, .int .u8 0, .int .u8 0, .int .u8 0, .int .u8 0, .int .u8 0, .int .u8 0, .int .u8 0, .int .u8 0, .int .u8 0, .int .u8 0, .int .u8 0, .int .u8 0, .int .u8 0, .int .u8 0, .int .u8 0] : Array Value) = ubC 32 (sqK A 0) from rfl] at LO
 go_loopw [5] (fun i wr => ∃ k : Nat, k ≤ 32 ∧ i = .int .i64 (k : Int) ∧ Has wr B 112 (luC 25 A) ∧ Has wr w.heap.size 138 (ubC 32 (sqK A k)) ∧ Below w.heap.size w wr) (fun i _ => 32 - (intOf i).toNat)
 case atStart => exact ⟨0, by omega, rfl, LB, LO, Q⟩
 case round =>
  clear LB LO Q
  obtain ⟨k, hk, rfl, LB, LO, Q⟩ := hrel
  by_cases hlt : k < 32
  ·have hkI : (k : Int) < 32 := by omega
   have e1 : (k : Int).tdiv 8 = ((k / 8 : Nat) : Int) := by rw [Int.tdiv_eq_ediv_of_nonneg (by omega)]; omega
   have e2 : (k : Int).tmod 8 = ((k % 8 : Nat) : Int) := by rw [Int.tmod_eq_emod_of_nonneg (by omega)]; omega
   have e3 : ((k % 8 : Nat) : Int) * 8 = ((8 * (k % 8) : Nat) : Int) := by omega
   have hw : IntKind.u8.wrap (((A (k / 8) : Nat) : Int) / 2 ^ (8 * (k % 8))) = ((sqB A k : Nat) : Int) := by
    rw [show (((A (k / 8) : Nat) : Int) / 2 ^ (8 * (k % 8))) = ((A (k / 8) / 2 ^ (8 * (k % 8)) : Nat) : Int) by rw [Int.natCast_ediv, Int.natCast_pow]; rfl]
    unfold sqB
    simp only [IntKind.wrap, IntKind.bits, IntKind.signed]
    generalize A (k / 8) / 2 ^ (8 * (k % 8)) = q
    simp
   have hS' : ∀ i, i < 32 → sqK A (k + 1) i = if i = k then sqB A k else sqK A k i := fun i _ => by
    unfold sqK
    by_cases e : i = k
    ·rw [if_pos e, if_pos (by omega), e]
    ·rw [if_neg e]
     by_cases e2 : i < k
     ·rw [if_pos e2, if_pos (by omega)]
     ·rw [if_neg e2, if_neg (by omega)]
   have h8 : k / 8 < 25 := by omega
   have hs64 : 8 * (k % 8) < 64 := by omega
   have kA := LB.cell _ _ (luC_get 25 A (k / 8) h8)
   have kO := LO.cell _ _ (ubC_get 32 _ k hlt)
   have kz := LO.frozen k
   have N1 := LO.set k (.int .u8 ((sqB A k : Nat) : Int))
   rw [ubC_set 32 _ (sqK A (k + 1)) k (sqB A k) hS'] at N1
   have H1 := hid N1
   have H2 := hid (Q.setCell (p := ⟨w.heap.size, k, none⟩) (Nat.le_refl _) (.int .u8 ((sqB A k : Nat) : Int)))
   have H3 := hid (LB.other (p := ⟨w.heap.size, k, none⟩) (show B ≠ w.heap.size by omega) (.int .u8 ((sqB A k : Nat) : Int)))
   have HLT := hid hlt
   clear hlt hk LB LO Q hS' N1
   generalize sqB A k = r at *
   generalize A (k / 8) = c at *
   generalize 8 * (k % 8) = s at *
   generalize k % 8 = k8 at *
   generalize k / 8 = i8 at *
   have hsI : (s : Int) < 64 := by omega
   have h8I : (i8 : Int) < 25 := by omega
   clear h8 hs64
   go_wp2
   go_roundw
   case rel => exact ⟨k + 1, by have := HLT.out; omega, by simp, H3.out, H1.out, H2.out⟩
   case measure => simp [intOf]; omega
  ·obtain rfl : k = 32 := by omega
   have hL : Has wr w.heap.size 138 (ubC 32 (sqB A)) := by rw [ubC_congr 32 (sqB A) (sqK A 32) (fun j hj => by unfold sqK; rw [if_pos hj])]; exact LO
   have hcv := conv_backT (cap := 32) (sqB_lt A) hL
   have HQ := hid Q
   clear LB LO Q hk hlt hL
   generalize (List.range 32).map (fun j => UInt8.ofNat (sqB A j)) = pl at *
   go_wp2
   go_ret
   rw [HP.out]
   exact ⟨rfl, HQ.out⟩
def byN (p : ByteArray) (i : Nat) : Nat := (p.data.getD i 0).toNat
theorem byN_lt (p : ByteArray) (i : Nat) : byN p i < 256 := (p.data.getD i 0).toNat_lt
theorem byN_at (p : ByteArray) (i : Nat) (hi : i < p.size) : byN p i = (p.data[i]'hi).toNat := by
 unfold byN
 have hi' : i < p.data.size := hi
 rw [Array.getD_eq_getD_getElem?, Array.getElem?_eq_getElem hi']
 rfl
def blkN (p : ByteArray) : Nat → Nat → Nat
 | 0 => fun _ => 0
 | k + 1 => permN (absN (blkN p k) (fun j => byN p (136 * k + j)) 136)
theorem permN_lt (A : Nat → Nat) (hA : ∀ j, A j < 2 ^ 64) (j : Nat) : permN A j < 2 ^ 64 := permK_lt A hA 24 (Nat.le_refl _) j
theorem blkN_lt (p : ByteArray) : ∀ k j, blkN p k j < 2 ^ 64
 | 0, j => by show 0 < 2 ^ 64; decide
 | k + 1, j => permN_lt _ (absN_lt _ _ (blkN_lt p k) (fun j => byN_lt p _) 136) j
theorem padS_size (s : ByteArray) : (padS s).size = 136 * (s.size / 136 + 1) := by
 unfold padS
 rw [ByteArray.size_append]
 show s.size + (pcL (pmN s)).toArray.size = _
 simp [pcL, pmN]
 omega
def sumS (s : ByteArray) : ByteArray := sqS (blkN (padS s) (s.size / 136 + 1))
theorem keepsFrom_below {B : Nat} {W X : World} (h : Below W.heap.size W X) : KeepsFrom B W X := Ext.keeps ⟨X, h⟩ B
theorem keepsFrom_row {B a : Nat} (W : World) (ha : a < B) (cs : Array Value) : KeepsFrom B W (W.setRow a cs) :=
 ⟨by show _ ≤ (W.heap.modify a _).size; rw [Array.size_modify]; exact Nat.le_refl _, fun k o hB hk _ => (setRow_other (by omega)).trans hk⟩
structure SuSt (w : World) (g b c n cap : Nat) (og : Obj) (A : Nat → Nat) (W : World) : Prop where
 A : Has W w.heap.size 112 (luC 25 A)
 G : W.heap[g]? = some og
 B : Has W b 97 #[.slice (some ⟨g, 0, none⟩) n cap]
 C : Has W c 3 #[.int .i64 136]
 T : Tab W
 Q : Below w.heap.size w W
theorem SuSt.own (w : World) (g b c n cap B : Nat) (og : Obj) (hog : og.isCells = true) (hw : 0 < w.heap.size ∧ w.heap.size ≤ B) (A : Nat → Nat → Nat) : OwnFrom B (fun (k : Nat) W => SuSt w g b c n cap og (A k) W) := fun s X Y row hs hg hr =>
 ⟨hs.A.grown hg (fun r e => (hr r e).2), (hg.block g (Array.getElem?_eq_some_iff.1 hs.G).1 (fun e => by obtain ⟨o, ho, hc⟩ := (hr g e.symm).2; rw [hs.G] at ho; cases ho; rw [hog] at hc; cases hc)).trans hs.G, hs.B.grown hg (fun r e => (hr r e).2), hs.C.grown hg (fun r e => (hr r e).2),
  ⟨Nat.lt_of_lt_of_le hs.T.lt hg.size, fun i hi => (World.cell?_of_block (w := X) (hg.block 0 hs.T.lt (fun e => by have := (hr 0 e.symm).1; omega))).trans (hs.T.cell i hi)⟩,
  ⟨hg.os.trans hs.Q.os, hg.tape.trans hs.Q.tape, hg.output.trans hs.Q.output, Nat.le_trans hs.Q.size hg.size, fun k hk => (hg.block k (Nat.lt_of_lt_of_le hk hs.Q.size) (fun e => by have := (hr k e.symm).1; omega)).trans (hs.Q.block k hk)⟩⟩
theorem sum_ret (s : ByteArray) (hs : s.size ≤ 1048576) : RetT Tryz.prog 48 #[.string s] (.tuple #[.string (sumS s), .int .i64 0]) := by
 intro w HT
 have hw0 := HT.lt
 have hmx : Tryz.prog.follows .mixedOrders = true := by kernel_rfl
 have hsI : (s.size : Int) ≤ 1048576 := by omega
 have hps := padS_size s
 have HPAD := hid (pad_ret s (by omega))
 have hN : s.size / 136 + 1 ≤ 7895160 := by omega
 have HF : Hid (sumS s = sqS (blkN (padS s) (s.size / 136 + 1))) := hid rfl
 have HPS := hid hps
 clear hps
 generalize padS s = ps at *
 generalize s.size / 136 + 1 = N at *
 have HABS := hid absorb_calls
 have HPER := hid permute_ret
 have HSQ := hid squeezed_calls
 have LA := Has.new w 112 #[.int .u64 0, .int .u64 0, .int .u64 0, .int .u64 0, .int .u64 0, .int .u64 0, .int .u64 0, .int .u64 0, .int .u64 0, .int .u64 0, .int .u64 0, .int .u64 0, .int .u64 0, .int .u64 0, .int .u64 0, .int .u64 0, .int .u64 0, .int .u64 0, .int .u64 0, .int .u64 0, .int .u64 0, .int .u64 0, .int .u64 0, .int .u64 0, .int .u64 0]
 have HLA := hid LA
 have H1 := hid (one_luC 25 (fun _ => 0))
 clear LA
 refine (callsIn_wide (n := 8)).1 ?_
 refine callsIn_of_wp_marks Tryz.func48 rfl trivial ?_ rfl
 simp only [Tryz.ntmps48, List.size_toArray, List.length_cons, List.length_nil, Nat.reduceAdd, Nat.reduceSub, Array.replicate_succ, Array.replicate_zero, List.push_toArray, List.append_toArray, List.nil_append, List.cons_append]
 gi_wp2_with (refine wpListIn_storeB free_wide rfl _ _ _ rfl w.heap.size #[.int .u64 0, .int .u64 0, .int .u64 0, .int .u64 0, .int .u64 0, .int .u64 0, .int .u64 0, .int .u64 0, .int .u64 0, .int .u64 0, .int .u64 0, .int .u64 0, .int .u64 0, .int .u64 0, .int .u64 0, .int .u64 0, .int .u64 0, .int .u64 0, .int .u64 0, .int .u64 0, .int .u64 0, .int .u64 0, .int .u64 0, .int .u64 0, .int .u64 0] rfl rfl _ #[.int .u64 0, .int .u64 0, .int .u64 0, .int .u64 0, .int .u64 0, .int .u64 0, .int .u64 0, .int .u64 0, .int .u64 0, .int .u64 0, .int .u64 0, .int .u64 0, .int .u64 0, .int .u64 0, .int .u64 0, .int .u64 0, .int .u64 0, .int .u64 0, .int .u64 0, .int .u64 0, .int .u64 0, .int .u64 0, .int .u64 0, .int .u64 0, .int .u64 0] HLA.out info25 rfl H1.out ?_)
 have LA : Has ((w.alloc (.cells #[.int .u64 0, .int .u64 0, .int .u64 0, .int .u64 0, .int .u64 0, .int .u64 0, .int .u64 0, .int .u64 0, .int .u64 0, .int .u64 0, .int .u64 0, .int .u64 0, .int .u64 0, .int .u64 0, .int .u64 0, .int .u64 0, .int .u64 0, .int .u64 0, .int .u64 0, .int .u64 0, .int .u64 0, .int .u64 0, .int .u64 0, .int .u64 0, .int .u64 0] 112)).setRow w.heap.size #[.int .u64 0, .int .u64 0, .int .u64 0, .int .u64 0, .int .u64 0, .int .u64 0, .int .u64 0, .int .u64 0, .int .u64 0, .int .u64 0, .int .u64 0, .int .u64 0, .int .u64 0, .int .u64 0, .int .u64 0, .int .u64 0, .int .u64 0, .int .u64 0, .int .u64 0, .int .u64 0, .int .u64 0, .int .u64 0, .int .u64 0, .int .u64 0, .int .u64 0]) w.heap.size 112 (luC 25 (blkN ps 0)) := HLA.out.rowK
 have Q : Below w.heap.size w ((w.alloc (.cells #[.int .u64 0, .int .u64 0, .int .u64 0, .int .u64 0, .int .u64 0, .int .u64 0, .int .u64 0, .int .u64 0, .int .u64 0, .int .u64 0, .int .u64 0, .int .u64 0, .int .u64 0, .int .u64 0, .int .u64 0, .int .u64 0, .int .u64 0, .int .u64 0, .int .u64 0, .int .u64 0, .int .u64 0, .int .u64 0, .int .u64 0, .int .u64 0, .int .u64 0] 112)).setRow w.heap.size #[.int .u64 0, .int .u64 0, .int .u64 0, .int .u64 0, .int .u64 0, .int .u64 0, .int .u64 0, .int .u64 0, .int .u64 0, .int .u64 0, .int .u64 0, .int .u64 0, .int .u64 0, .int .u64 0, .int .u64 0, .int .u64 0, .int .u64 0, .int .u64 0, .int .u64 0, .int .u64 0, .int .u64 0, .int .u64 0, .int .u64 0, .int .u64 0, .int .u64 0]) := below_row ((Below.refl w.heap.size w).alloc (Nat.le_refl _) (.cells #[.int .u64 0, .int .u64 0, .int .u64 0, .int .u64 0, .int .u64 0, .int .u64 0, .int .u64 0, .int .u64 0, .int .u64 0, .int .u64 0, .int .u64 0, .int .u64 0, .int .u64 0, .int .u64 0, .int .u64 0, .int .u64 0, .int .u64 0, .int .u64 0, .int .u64 0, .int .u64 0, .int .u64 0, .int .u64 0, .int .u64 0, .int .u64 0, .int .u64 0] 112)) (Nat.le_refl _) _
 have HT := (HT.alloc (.cells #[.int .u64 0, .int .u64 0, .int .u64 0, .int .u64 0, .int .u64 0, .int .u64 0, .int .u64 0, .int .u64 0, .int .u64 0, .int .u64 0, .int .u64 0, .int .u64 0, .int .u64 0, .int .u64 0, .int .u64 0, .int .u64 0, .int .u64 0, .int .u64 0, .int .u64 0, .int .u64 0, .int .u64 0, .int .u64 0, .int .u64 0, .int .u64 0, .int .u64 0] 112)).row hw0 #[.int .u64 0, .int .u64 0, .int .u64 0, .int .u64 0, .int .u64 0, .int .u64 0, .int .u64 0, .int .u64 0, .int .u64 0, .int .u64 0, .int .u64 0, .int .u64 0, .int .u64 0, .int .u64 0, .int .u64 0, .int .u64 0, .int .u64 0, .int .u64 0, .int .u64 0, .int .u64 0, .int .u64 0, .int .u64 0, .int .u64 0, .int .u64 0, .int .u64 0]
 obtain ⟨w1, hw1⟩ : ∃ w1, (w.alloc (.cells #[.int .u64 0, .int .u64 0, .int .u64 0, .int .u64 0, .int .u64 0, .int .u64 0, .int .u64 0, .int .u64 0, .int .u64 0, .int .u64 0, .int .u64 0, .int .u64 0, .int .u64 0, .int .u64 0, .int .u64 0, .int .u64 0, .int .u64 0, .int .u64 0, .int .u64 0, .int .u64 0, .int .u64 0, .int .u64 0, .int .u64 0, .int .u64 0, .int .u64 0] 112)).setRow w.heap.size #[.int .u64 0, .int .u64 0, .int .u64 0, .int .u64 0, .int .u64 0, .int .u64 0, .int .u64 0, .int .u64 0, .int .u64 0, .int .u64 0, .int .u64 0, .int .u64 0, .int .u64 0, .int .u64 0, .int .u64 0, .int .u64 0, .int .u64 0, .int .u64 0, .int .u64 0, .int .u64 0, .int .u64 0, .int .u64 0, .int .u64 0, .int .u64 0, .int .u64 0] = w1 := ⟨_, rfl⟩
 rw [hw1] at LA Q HT ⊢
 clear hw1 HLA H1
 refine (callsIn_free free_wide (HPAD.out _)).mono ?_
 rintro e w2 ⟨rfl, q⟩
 have LA := LA.later q
 have HT := HT.later q
 have Q := Q.trans (q.mono Q.size)
 have haw := LA.lt
 clear q HPAD
 have hcv := run_bytes_of_string (P := Tryz.prog) w2 9 97 5 ps Tryz.underlying9 Tryz.underlying97 Tryz.underlying5
 rw [HPS.out] at hcv
 have hcap := grownCap_ge w2 (136 * N) 0 5
 have hcap2 := grownCap_le_maxLen w2 (136 * N) 0 5 (by unfold maxLen; omega)
 obtain ⟨og, hog⟩ : ∃ og : Obj, .cells (bytesRow ps (grownCap w2 (136 * N) 0 5)) 5 ((bytesRow ps (grownCap w2 (136 * N) 0 5)).size, (bytesRow ps (grownCap w2 (136 * N) 0 5)).size + 1) = og := ⟨_, rfl⟩
 have hogc : og.isCells = true := by rw [← hog]; rfl
 have hog2 : ∀ (W : World) (g : Nat), W.heap[g]? = some og → ∀ i, i < 136 * N → W.cell? ⟨g, i, none⟩ = some (.int .u8 ((byN ps i : Nat) : Int)) := fun W g h i hi => by
  rw [← hog] at h
  have hb := bytesRow_at ps (grownCap w2 (136 * N) 0 5) i (show i < ps.size by rw [HPS.out]; exact hi)
  have he := byN_at ps i (show i < ps.size by rw [HPS.out]; exact hi)
  rw [he]
  simp only [World.cell?, h]
  exact hb
 rw [hog] at hcv
 have LG := World.alloc_heap_new w2.drew og
 have LA : Has (w2.drew.alloc og) w.heap.size 112 (luC 25 (blkN ps 0)) := Has.alloc (W := w2.drew) LA og
 have HT : Tab (w2.drew.alloc og) := Tab.alloc (W := w2.drew) ⟨HT.lt, HT.cell⟩ og
 have Q : Below w.heap.size w (w2.drew.alloc og) := Q.drew.alloc Q.size og
 have hgl : w2.heap.size < (w2.drew.alloc og).heap.size := by simp
 change (w2.drew.alloc og).heap[w2.heap.size]? = some og at LG
 obtain ⟨w3, hw3⟩ : ∃ w3, w2.drew.alloc og = w3 := ⟨_, rfl⟩
 rw [hw3] at hcv LG LA HT Q hgl
 clear hw3 hog
 generalize grownCap w2 (136 * N) 0 5 = cap at *
 generalize w2.heap.size = g at *
 gi_wp2_with fail
 clear hcv
 refine (callsIn_free free_wide (chunk_any _ _ _ _)).mono ?_
 rintro e w4 ⟨rfl, rfl⟩
 have LB := (Has.new w3 97 #[.slice (some ⟨g, 0, none⟩) (136 * N) cap]).alloc (.cells #[.int .i64 136] 3)
 have LC := Has.new (w3.alloc (.cells #[.slice (some ⟨g, 0, none⟩) (136 * N) cap] 97)) 3 #[.int .i64 136]
 simp only [World.size_alloc] at LC
 have LG : ((w3.alloc (.cells #[.slice (some ⟨g, 0, none⟩) (136 * N) cap] 97)).alloc (.cells #[.int .i64 136] 3)).heap[g]? = some og := (Below.heap_alloc _ _ _ (by simp; omega)).trans ((Below.heap_alloc _ _ _ hgl).trans LG)
 have LA := (LA.alloc (.cells #[.slice (some ⟨g, 0, none⟩) (136 * N) cap] 97)).alloc (.cells #[.int .i64 136] 3)
 have HT := (HT.alloc (.cells #[.slice (some ⟨g, 0, none⟩) (136 * N) cap] 97)).alloc (.cells #[.int .i64 136] 3)
 have Q := (Q.alloc Q.size (.cells #[.slice (some ⟨g, 0, none⟩) (136 * N) cap] 97)).alloc (by have := Q.size; simp; omega) (.cells #[.int .i64 136] 3)
 have hsz : ((w3.alloc (.cells #[.slice (some ⟨g, 0, none⟩) (136 * N) cap] 97)).alloc (.cells #[.int .i64 136] 3)).heap.size = w3.heap.size + 2 := by simp
 obtain ⟨W0, hW0⟩ : ∃ W0, (w3.alloc (.cells #[.slice (some ⟨g, 0, none⟩) (136 * N) cap] 97)).alloc (.cells #[.int .i64 136] 3) = W0 := ⟨_, rfl⟩
 rw [hW0] at LB LC LG LA HT Q hsz ⊢
 clear hW0
 generalize w3.heap.size = b at *
 have hJ0 : SuSt w g b (b + 1) (136 * N) cap og (blkN ps 0) W0 := ⟨LA, LG, LB, LC, HT, Q⟩
 have kb := LB.cell 0 _ rfl
 have kc := LC.cell 0 _ rfl
 clear LA LG LB LC HT Q
 have HLT := hid (blkN_lt ps)
 have HBY := hid (byN_lt ps)
 have hNs : ∀ k, k < N → ∀ j, j < 136 → 136 * k + j < 136 * N := fun k hk j hj => by omega
 have hm136 : 136 * N ≤ cap := by omega
 have hcm : cap ≤ 9223372036854775807 := by unfold maxLen at hcap2; omega
 have Hog2 := hid hog2
 have HNs := hid hNs
 clear hog2 hNs hcap hcap2
 gi_wp2_with fail
 generalize Value.bool (decide (1048576 < ((s.size : Nat) : Int))) = v8
 generalize Value.agg #[.int .u64 0, .int .u64 0, .int .u64 0, .int .u64 0, .int .u64 0, .int .u64 0, .int .u64 0, .int .u64 0, .int .u64 0, .int .u64 0, .int .u64 0, .int .u64 0, .int .u64 0, .int .u64 0, .int .u64 0, .int .u64 0, .int .u64 0, .int .u64 0, .int .u64 0, .int .u64 0, .int .u64 0, .int .u64 0, .int .u64 0, .int .u64 0, .int .u64 0] = v9
 refine wpIn_rangeFunc_N1 rfl (by omega) (gf := 104) (lb := #[.pointer (some ⟨b, 0, none⟩), .pointer (some ⟨b + 1, 0, none⟩)]) rfl trivial (enters_of Tryz.func104 (by kernel_rfl) rfl)
  (chunk_seq _ (by omega) N g cap b (b + 1) hN hm136 hcm W0 (by omega) (by omega) kb kc) KeepsAt.trans (KeepsAt.refl _) (KeepsAt.b (by simp; omega)) (fun _ _ => rfl)
  (fun k W => SuSt w g b (b + 1) (136 * N) cap og (blkN ps k) W) (fun _ _ _ => False) (SuSt.own w g b (b + 1) (136 * N) cap _ og hogc ⟨hw0, by have := hJ0.A.lt; omega⟩ (blkN ps)) (fun _ _ _ _ _ hs _ _ => hs) hJ0
  (fun k => { tmps := #[.string s, undef, .string ⟨#[]⟩, .int .i64 0, .pointer (some ⟨w.heap.size, 0, none⟩), .slice (some ⟨g, 136 * k, none⟩) 136 136, .string s, .int .i64 (s.size : Int), v8, v9, .string s, .string ps, .slice (some ⟨g, 0, none⟩) (136 * N) cap, .func (.func 104) #[] #[.pointer (some ⟨b, 0, none⟩), .pointer (some ⟨b + 1, 0, none⟩)], .slice (some ⟨g, 136 * k, none⟩) 136 136, undef, undef, undef, undef, undef], defers := [] }) ?assign ?body ?done ?stop
 case assign =>
  intro l k W K hkN hK
  clear hkN
  gi_wp2
  exact hK
 case body =>
  rintro l k W hl hkN hst
  have haW : w.heap.size < W0.heap.size := by have := hJ0.A.lt; omega
  have hgA : g ≠ w.heap.size := by omega
  have hcell : ∀ j, j < 136 → W.cell? ⟨g, 136 * k + j, none⟩ = some (.int .u8 ((byN ps (136 * k + j) : Nat) : Int)) := fun j hj => Hog2.out W g hst.G _ (HNs.out k hkN j hj)
  have hA := HLT.out k
  have hD := fun j => HBY.out (136 * k + j)
  have hAB := absN_lt (blkN ps k) (fun j => byN ps (136 * k + j)) hA hD 136
  have HP : Hid (RetT Tryz.prog 79 #[.agg (luC 25 (absN (blkN ps k) (fun j => byN ps (136 * k + j)) 136))] (.agg (luC 25 (blkN ps (k + 1))))) := hid (HPER.out _ hAB)
  have hwle : w.heap.size ≤ W.heap.size := hst.Q.size
  have HST := hid hst
  clear hJ0 kb kc hst hkN HPER HLT HBY Hog2 HNs
  gi_wp2_with fail
  refine (callsIn_free (free_round l) (HABS.out w.heap.size g (136 * k) _ _ hA hD hgA W HST.out.A hcell)).mono ?_
  rintro e w1 ⟨⟨v1, rfl⟩, L1, G1⟩
  have S1 : SuSt w g b (b + 1) (136 * N) cap og (absN (blkN ps k) (fun j => byN ps (136 * k + j)) 136) w1 := ⟨L1, (G1.block g (Array.getElem?_eq_some_iff.1 HST.out.G).1 (fun e => hgA (Option.some.inj e))).trans HST.out.G, HST.out.B.kept G1 (fun e => by have := Option.some.inj e; omega), HST.out.C.kept G1 (fun e => by have := Option.some.inj e; omega), HST.out.T.kept G1 hw0, below_of_grown HST.out.Q G1 (Nat.le_refl _)⟩
  have hKF1 := KeepsFrom.of_grownBy (B := W0.heap.size) G1 (fun j e => by have := Option.some.inj e; omega)
  have hKA1 : KeepsAt [b, b + 1] W w1 := fun x hx => G1.block x (by simp at hx; have h1 := HST.out.B.lt; have h2 := HST.out.C.lt; omega) (fun e => by have := Option.some.inj e; simp at hx; omega)
  clear hcell hA hD hAB HABS
  generalize absN (blkN ps k) (fun j => byN ps (136 * k + j)) 136 = AB at *
  have HEQ : Hid (blkN ps (k + 1) = blkN ps (k + 1)) := hid rfl
  obtain ⟨A2, hA2⟩ : ∃ A2, blkN ps (k + 1) = A2 := ⟨_, rfl⟩
  rw [hA2] at HP
  have HE := hid hA2
  clear hA2 HEQ
  have HL1 := hid (load25 S1.A)
  have HS1 := hid S1
  have HKF1 := hid hKF1
  have HKA1 := hid hKA1
  clear L1 G1 S1 hKF1 hKA1
  gi_wp2_with (refine wpListIn_loadB (free_round l) rfl _ _ rfl w.heap.size rfl _ HL1.out ?_)
  clear HL1
  refine (callsIn_free (free_round l) (HP.out _ HS1.out.T)).mono ?_
  rintro e w2 ⟨rfl, q⟩
  have HA2 := hid (HS1.out.A.later q)
  have HI2 := hid (infoL A2)
  have HO2 := hid (one_luC 25 A2)
  have hgA2 : g ≠ w.heap.size := hgA
  have hbA : b ≠ w.heap.size := by omega
  have hcA : b + 1 ≠ w.heap.size := by omega
  have HS3 : Hid (SuSt w g b (b + 1) (136 * N) cap og A2 (w2.setRow w.heap.size (luC 25 A2))) := hid
   ⟨(HS1.out.A.later q).rowK, (setRow_other hgA).trans ((q.block g (Array.getElem?_eq_some_iff.1 HS1.out.G).1).trans HS1.out.G), (setRow_other hbA).trans (HS1.out.B.later q), (setRow_other hcA).trans (HS1.out.C.later q), (HS1.out.T.later q).row hw0 _, below_row (HS1.out.Q.trans (q.mono HS1.out.Q.size)) (Nat.le_refl _) _⟩
  have HKF3 := hid ((HKF1.out.trans (keepsFrom_below q)).trans (keepsFrom_row w2 haW (luC 25 A2)))
  have HKA3 : Hid (KeepsAt [b, b + 1] W (w2.setRow w.heap.size (luC 25 A2))) := hid (fun x hx => (setRow_other (by simp at hx; omega)).trans ((q.block x (by simp at hx; have h1 := HS1.out.B.lt; have h2 := HS1.out.C.lt; omega)).trans (HKA1.out x hx)))
  clear q
  gi_wp2_with (refine wpListIn_storeB (free_round l) rfl _ _ _ rfl w.heap.size (luC 25 A2) rfl rfl _ _ HA2.out HI2.out (by rw [luC_size, luC_size]) HO2.out ?_)
  exact ⟨HKF3.out, HKA3.out, by show SuSt w g b (b + 1) (136 * N) cap og (blkN ps (k + 1)) _; rw [HE.out]; exact HS3.out⟩
 case done =>
  rintro D W hD hst hK
  have HK := hid hK
  have HST := hid hst
  clear hst hK hJ0 kb kc
  gi_wp2_with fail
  refine (callsIn_free free_wide (HSQ.out w.heap.size (blkN ps N) W HST.out.A)).mono ?_
  rintro e w2 ⟨rfl, q⟩
  have hK2 : w2.heap[D]? = some (.deferred (some [])) := (q.block D (Array.getElem?_eq_some_iff.1 HK.out).1).trans HK.out
  have Q2 := HST.out.Q.trans (q.mono HST.out.Q.size)
  have HQ2 := hid (Q2.trans (belowK_b (w := w) (Nat.le_refl _) _ D _ (.deferred none) (by have := HST.out.A.lt; omega) hK2 rfl rfl))
  have HK2 := hid hK2
  clear q hK2 Q2
  generalize sqS (blkN ps N) = out at *
  gi_wp2
  refine ⟨by simp, .inl ⟨_, _, rfl, run_takeDeferred HK2.out, ?_⟩⟩
  exact ⟨.tuple #[.string out, .int .i64 0], by simp [results, Tryz.f48, go_sem], by rw [HF.out], HQ2.out⟩
 case stop =>
  rintro D c k W _ _ h _
  exact h.elim
end Go.Proofs.YtkicmbdjihjgfaaGreatDoor
namespace Go.Proofs.YtkicmbdjihjgfaaGreatDoor
open Go Go.RowKit Go.Shelf
theorem padS_list (s : ByteArray) : (padS s).data.toList = s.data.toList ++ pcL (pmN s) := by
 unfold padS
 rw [ByteArray.data_append, Array.toList_append]
theorem byN_list (p : ByteArray) (i : Nat) : byN p i = (p.data.toList.getD i 0).toNat := by
 unfold byN
 rw [Array.getD_eq_getD_getElem?, List.getD_eq_getElem?_getD, Array.getElem?_toList]
theorem byN_pad (s : ByteArray) (i : Nat) : byN (padS s) i = ((s.data.toList ++ pcL (pmN s)).getD i 0).toNat := by rw [byN_list, padS_list]
theorem ofL_l25 (A : Nat → Nat) (j : Nat) (hj : j < 25) : (l25 A).getD j 0 = A j := by
 unfold l25
 rw [List.getD_eq_getElem?_getD, List.getElem?_map, List.getElem?_range hj]
 rfl
theorem one_block (s : ByteArray) (j : Nat) (hj : j < 25) : blkN (padS s) 1 j = (permL (l25 (absN (fun _ => 0) (fun i => ((s.data.toList ++ pcL (pmN s)).getD i 0).toNat) 136))).getD j 0 := by
 rw [permL_eq, ofL_l25 _ j hj]
 show permN (absN (fun _ => 0) (fun i => byN (padS s) (136 * 0 + i)) 136) j = _
 have e : (fun i => byN (padS s) (136 * 0 + i)) = fun i => ((s.data.toList ++ pcL (pmN s)).getD i 0).toNat := funext fun i => by rw [Nat.mul_zero, Nat.zero_add, byN_pad]
 exact congrFun (congrArg (fun D => permN (absN (fun _ => 0) D 136)) e) j
theorem sqS_size (A : Nat → Nat) : (sqS A).size = 32 := by
 show ((List.range 32).map fun j => UInt8.ofNat (sqB A j)).toArray.size = 32
 simp
theorem sqS_head (A : Nat → Nat) : (sqS A).extract 0 6 = ⟨#[UInt8.ofNat (A 0 % 256), UInt8.ofNat (A 0 / 2 ^ 8 % 256), UInt8.ofNat (A 0 / 2 ^ 16 % 256), UInt8.ofNat (A 0 / 2 ^ 24 % 256), UInt8.ofNat (A 0 / 2 ^ 32 % 256), UInt8.ofNat (A 0 / 2 ^ 40 % 256)]⟩ := by
 apply ByteArray.ext
 rw [ByteArray.data_extract]
 unfold sqS sqB
 simp [List.range_succ]
theorem sumS_size (s : ByteArray) : (sumS s).size = 32 := sqS_size _
end Go.Proofs.YtkicmbdjihjgfaaGreatDoor
