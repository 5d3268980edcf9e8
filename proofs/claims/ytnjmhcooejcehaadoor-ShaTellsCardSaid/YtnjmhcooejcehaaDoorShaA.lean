/- Numbers of 32 bits in blocks, and the small functions of package sha: turned, next, roundedUp. -/
import Derived.Test.YtnjmhcooejcehaaDoorShaM
import Derived.Laws.BitsAllLaws
import Derived.Laws.Bits64
import Derived.Laws.Bits64b
import Derived.Deep.WholeRow
namespace Go.Proofs.YtnjmhcooejcehaaDoor
open Go Go.RowKit Go.Shelf
attribute [local go_sem] Oper.semAt_some Grows wide_fn

/-- Numbers of 32 bits, as cells. -/
def arC (n : Nat) (A : Nat → Nat) : Array Value := ((List.range n).map fun i => Value.int .u32 ((A i : Nat) : Int)).toArray
theorem arC_size (n : Nat) (A : Nat → Nat) : (arC n A).size = n := by simp [arC]
theorem arC_get (n : Nat) (A : Nat → Nat) (j : Nat) (h : j < n) : (arC n A)[j]? = some (.int .u32 ((A j : Nat) : Int)) := by simp [arC, h]
theorem arC_congr (n : Nat) (A B : Nat → Nat) (h : ∀ j, j < n → A j = B j) : arC n A = arC n B := by
  unfold arC
  congr 1
  refine List.map_congr_left (fun i hi => ?_)
  rw [h i (List.mem_range.1 hi)]
theorem arC_set (n : Nat) (A B : Nat → Nat) (k v : Nat) (hB : ∀ j, j < n → B j = if j = k then v else A j) : (arC n A).setIfInBounds k (.int .u32 ((v : Nat) : Int)) = arC n B := by
  refine Array.ext (by simp [arC]) (fun i h1 h2 => ?_)
  have hi : i < n := by simpa [arC] using h2
  rw [Array.getElem_setIfInBounds (by simpa [arC] using hi)]
  simp only [arC, List.getElem_toArray, List.getElem_map, List.getElem_range]
  rw [hB i hi]
  by_cases e : k = i
  · rw [if_pos e, if_pos e.symm]
  · rw [if_neg e, if_neg (fun h => e h.symm)]
theorem one_arC (n : Nat) (A : Nat → Nat) : (arC n A).all (·.oneCell') = true := by
  rw [Array.all_eq_true]
  intro i hi
  simp [arC, Value.oneCell']

theorem Has.row {W : World} {B : Nat} {t : TypeId} {cs cs' : Array Value} (h : Has W B t cs) : Has (W.setRow B cs') B t cs' := by
  obtain ⟨hlt, he⟩ := Array.getElem?_eq_some_iff.1 h
  show (W.heap.modify B _)[B]? = _
  rw [Array.getElem?_eq_getElem (by rw [Array.size_modify]; exact hlt), Array.getElem_modify_self, he]
theorem setRow_other {W : World} {B b : Nat} {cs : Array Value} (h : b ≠ B) : (W.setRow B cs).heap[b]? = W.heap[b]? := by
  show (W.heap.modify B _)[b]? = _
  rw [Array.getElem?_modify, if_neg (fun e => h e.symm)]
theorem Has.rowOther {W : World} {B b : Nat} {t : TypeId} {cs cs' : Array Value} (h : Has W b t cs) (hne : b ≠ B) : Has (W.setRow B cs') b t cs := (setRow_other hne).trans h
theorem grown_row {w A : World} {row : Option Nat} (h : w.grownBy A row) {B : Nat} (hp : row = some B ∨ w.heap.size ≤ B) (cs : Array Value) : w.grownBy (A.setRow B cs) row :=
  ⟨h.os, h.tape, h.output, by show _ ≤ (A.heap.modify B _).size; rw [Array.size_modify]; exact h.size, fun k hk hne => (setRow_other (fun e => by subst e; rcases hp with hp | hp; exact hne hp.symm; omega)).trans (h.block k hk hne)⟩
theorem below_row {w W : World} {n : Nat} (h : Below n w W) {B : Nat} (hB : n ≤ B) (cs : Array Value) : Below n w (W.setRow B cs) :=
  ⟨h.os, h.tape, h.output, by show _ ≤ (W.heap.modify B _).size; rw [Array.size_modify]; exact h.size, fun k hk => (setRow_other (by omega)).trans (h.block k hk)⟩
theorem wpListIn_storeB {F : Fence} {n : Nat} {ops : Array Oper} {Q : Exit → Act → World → Prop} {a : Act} {w : World} {rest : List Oper} {o : Oper} (hF : Free F) (hg : o.guard = none) (ty : TypeId) (x y : Operand) (ho : o.op = .store ty x y) (B : Nat) (cells : Array Value)
    (hx : a.eval x = .pointer (some ⟨B, 0, none⟩)) (hy : a.eval y = .agg cells) (t : TypeId) (old : Array Value) (hh : Has w B t old) (hi : (Tryd.prog.info? ty).map (·.size) = some cells.size) (hold : old.size = cells.size) (h1 : cells.all (·.oneCell') = true)
    (h : wpListIn F n Tryd.prog ops Q rest (a.put o.dst undef) (w.setRow B cells)) : wpListIn F n Tryd.prog ops Q (o :: rest) a w :=
  wpListIn_plain hg fun K hK => by
    unfold Oper.wpIn
    refine ⟨fun f _ => hF.fn f, ?_⟩
    rw [Oper.semAt_eq _ _ _ (by intro c; rw [ho]; simp)]
    unfold execOp
    simp only [ho, hx, hy, Instr.storeAt, Instr.sureAddr, Sem.run_bind, Sem.run_pure, Result.andThen_ok, run_storeVar_row w B t ty old cells hh hi hold h1]
    exact hK _ _ h
theorem wpListIn_loadB {F : Fence} {n : Nat} {ops : Array Oper} {Q : Exit → Act → World → Prop} {a : Act} {w : World} {rest : List Oper} {o : Oper} (hF : Free F) (hg : o.guard = none) (ty : TypeId) (x : Operand) (ho : o.op = .load ty x) (B : Nat) (hx : a.eval x = .pointer (some ⟨B, 0, none⟩)) (cs : Array Value) (hr : (loadVar ty ⟨B, 0, none⟩).run Tryd.prog w = .ok (.agg cs) w)
    (h : wpListIn F n Tryd.prog ops Q rest (a.put o.dst (.agg cs)) w) : wpListIn F n Tryd.prog ops Q (o :: rest) a w :=
  wpListIn_plain hg fun K hK => by
    unfold Oper.wpIn
    refine ⟨fun f _ => hF.fn f, ?_⟩
    rw [Oper.semAt_eq _ _ _ (by intro c; rw [ho]; simp)]
    unfold execOp
    simp only [ho, hx, Instr.loadAt, Instr.sureAddr, Sem.run_bind, Sem.run_pure, Result.andThen_ok, hr]
    exact hK _ _ h
theorem wpList_storeB {ops : Array Oper} {Q : Exit → Act → World → Prop} {a : Act} {w : World} {rest : List Oper} {o : Oper} (hg : o.guard = none) (ty : TypeId) (x y : Operand) (ho : o.op = .store ty x y) (B : Nat) (cells : Array Value)
    (hx : a.eval x = .pointer (some ⟨B, 0, none⟩)) (hy : a.eval y = .agg cells) (t : TypeId) (old : Array Value) (hh : Has w B t old) (hi : (Tryd.prog.info? ty).map (·.size) = some cells.size) (hold : old.size = cells.size) (h1 : cells.all (·.oneCell') = true)
    (h : wpList Tryd.prog ops Q rest (a.put o.dst undef) (w.setRow B cells)) : wpList Tryd.prog ops Q (o :: rest) a w :=
  wpList_store_row hg ty x y ho B cells hx hy t old hh hi hold h1 h
theorem wpList_loadB {ops : Array Oper} {Q : Exit → Act → World → Prop} {a : Act} {w : World} {rest : List Oper} {o : Oper} (hg : o.guard = none) (ty : TypeId) (x : Operand) (ho : o.op = .load ty x) (B : Nat) (hx : a.eval x = .pointer (some ⟨B, 0, none⟩)) (cs : Array Value) (hr : (loadVar ty ⟨B, 0, none⟩).run Tryd.prog w = .ok (.agg cs) w)
    (h : wpList Tryd.prog ops Q rest (a.put o.dst (.agg cs)) w) : wpList Tryd.prog ops Q (o :: rest) a w :=
  wpList_plain hg fun K hK => by
    unfold Oper.wp execOp
    simp only [ho, hx, Instr.loadAt, Instr.sureAddr, Sem.run_bind, Sem.run_pure, Result.andThen_ok, hr]
    exact hK _ _ h
theorem info8 : (Tryd.prog.info? 46).map (·.size) = some 8 := by kernel_rfl
theorem info64 : (Tryd.prog.info? 52).map (·.size) = some 64 := by kernel_rfl
theorem infoA8 (A : Nat → Nat) : (Tryd.prog.info? 46).map (·.size) = some (arC 8 A).size := by rw [arC_size]; exact info8
theorem infoA64 (A : Nat → Nat) : (Tryd.prog.info? 52).map (·.size) = some (arC 64 A).size := by rw [arC_size]; exact info64
theorem load8 {W : World} {B : Nat} {A : Nat → Nat} (h : Has W B 46 (arC 8 A)) : (loadVar 46 ⟨B, 0, none⟩).run Tryd.prog W = .ok (.agg (arC 8 A)) W :=
  run_loadVar_row _ _ _ _ _ (0, 0) _ h Tryd.underlying46 rfl (by rw [arC_size]; exact info8)
theorem load64 {W : World} {B : Nat} {A : Nat → Nat} (h : Has W B 52 (arC 64 A)) : (loadVar 52 ⟨B, 0, none⟩).run Tryd.prog W = .ok (.agg (arC 64 A)) W :=
  run_loadVar_row _ _ _ _ _ (0, 0) _ h Tryd.underlying52 rfl (by rw [arC_size]; exact info64)

theorem rot32_walk (x k c s : Int) (u v r : Int) (hc : IntKind.u64.wrap k = c) (hs : bits .and .u64 c 31 = s) (hs0 : 0 ≤ s ∧ s < 32) (hu : IntKind.u32.wrap (x * 2 ^ s.toNat) = u) (hv : x / 2 ^ (32 - s).toNat = v) (hr : bits .or .u32 u v = r) :
    Ret Tryd.prog 31 #[.int .u32 x, .int .i64 k] (.int .u32 r) := by
  refine Ret.of_same fun w => ?_
  obtain ⟨s0, s1⟩ := hs0
  go_enter Tryd.func31, Tryd.ntmps31
  go_wp2
  go_ret
  exact ⟨rfl, rfl⟩

theorem turned_walk (x d : Int) (r : Int) (hd : 0 < d ∧ d < 32) (h : Ret Tryd.prog 31 #[.int .u32 x, .int .i64 (-d)] (.int .u32 r)) :
    Ret Tryd.prog 27 #[.int .u32 x, .int .i64 d] (.int .u32 r) := by
  intro w
  obtain ⟨d0, d1⟩ := hd
  have H := Lib.hid h
  clear h
  go_enter Tryd.func27, Tryd.ntmps27
  go_wp2_with fail
  refine (H.out _).mono ?_
  rintro e w1 ⟨rfl, q⟩
  go_wp2
  go_ret
  exact ⟨rfl, q⟩

theorem turned_ret (x d : Nat) (hx : x < 4294967296) (hd : 0 < d ∧ d < 32) : Ret Tryd.prog 27 #[.int .u32 (x : Int), .int .i64 (d : Int)] (.int .u32 ((rr x d : Nat) : Int)) := by
  obtain ⟨d0, d1⟩ := hd
  refine turned_walk (x : Int) (d : Int) _ ⟨by omega, by omega⟩ ?_
  have hc : IntKind.u64.wrap (-(d : Int)) = ((18446744073709551616 - d : Nat) : Int) := by rw [IntKind.wrap_u64]; omega
  have hs : bits .and .u64 ((18446744073709551616 - d : Nat) : Int) 31 = ((32 - d : Nat) : Int) := by
    rw [show (31 : Int) = ((31 : Nat) : Int) from rfl, bits_and_u64_nat _ 31 (by omega) (by omega), show (31 : Nat) = 2 ^ 5 - 1 from rfl, Nat.and_two_pow_sub_one_eq_mod]
    omega
  refine rot32_walk (x : Int) (-(d : Int)) _ ((32 - d : Nat) : Int) ((x * 2 ^ (32 - d) % 2 ^ 32 : Nat) : Int) ((x / 2 ^ d : Nat) : Int) _ hc hs ⟨by omega, by omega⟩ ?_ ?_ ?_
  · rw [IntKind.wrap_u32, Int.toNat_natCast]
    rw [Int.natCast_emod, Int.natCast_mul, Int.natCast_pow]
    rfl
  · rw [show (32 - ((32 - d : Nat) : Int)).toNat = d by omega]
    rw [Int.natCast_ediv, Int.natCast_pow]
    rfl
  · exact u32_or_nat _ _ (Nat.mod_lt _ (by decide)) (Nat.lt_of_le_of_lt (Nat.div_le_self _ _) hx)

theorem roundedUp_ret (m s : Nat) (hs : 0 < s) (hb : m + s < 1152921504606846976) : Ret Tryd.prog 23 #[.int .i64 (m : Int), .int .i64 (s : Int)] (.int .i64 (((m + s - 1) / s : Nat) : Int)) := by
  refine Ret.of_same fun w => ?_
  have h0 : (s : Int) ≠ 0 := by omega
  have hq : ((m : Int) + (s : Int) - 1).tdiv (s : Int) = (((m + s - 1) / s : Nat) : Int) := by
    rw [Int.tdiv_eq_ediv_of_nonneg (by omega), show ((m : Int) + (s : Int) - 1) = ((m + s - 1 : Nat) : Int) by omega, Int.natCast_ediv]
  have hl : (m + s - 1) / s < 1152921504606846976 := Nat.lt_of_le_of_lt (Nat.div_le_self _ _) (by omega)
  have hmI : (m : Int) + (s : Int) < 1152921504606846976 := by omega
  have hsI : 0 < (s : Int) := by omega
  generalize (m + s - 1) / s = q at *
  go_enter Tryd.func23, Tryd.ntmps23
  go_wp2
  go_ret
  exact ⟨rfl, rfl⟩
end Go.Proofs.YtnjmhcooejcehaaDoor
