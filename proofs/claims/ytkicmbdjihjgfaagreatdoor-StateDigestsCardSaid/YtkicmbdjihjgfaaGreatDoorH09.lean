/- Part. -/
import Derived.Lib.BytesEntry
import Derived.Lib.Bytealg
import Derived.Laws.StructEq
import Derived.Laws.Cover2
import Derived.WalkKit
import Derived.Deep.Quiet
import Derived.BigQuiet
import Derived.Deep.MidRow
import Derived.Deep.WholeRow
import Derived.Test.YtkicmbdjihjgfaaGreatDoorH04
import Derived.Test.YtkicmbdjihjgfaaGreatDoorH08
import Derived.Test.YtkicmbdjihjgfaaGreatDoorH05
set_option maxRecDepth 100000
set_option maxHeartbeats 16000000
namespace Go.Proofs.YtkicmbdjihjgfaaGreatDoor
section
open Go Go.RowKit
attribute [local go_sem] Oper.semAt_some Grows wide_fn
def adB (n i : Nat) : Nat := n / 256 ^ (19 - i) % 256
def adL (n : Nat) : List Value := (List.range 20).map fun i => .int .u8 ((adB n i : Nat) : Int)
theorem adL_len (n : Nat) : (adL n).length = 20 := by simp [adL]
def lowB : Nat → Nat → List UInt8
 | 0, _ => []
 | k + 1, n => UInt8.ofNat (n / 256 ^ k % 256) :: lowB k n
def acmp (a b : Nat) : Int := if a < b then -1 else if b < a then 1 else 0
theorem byte_lt (a b : Nat) (ha : a < 256) (hb : b < 256) : (UInt8.ofNat a < UInt8.ofNat b) ↔ a < b := by
 rw [UInt8.lt_iff_toNat_lt, UInt8.toNat_ofNat', UInt8.toNat_ofNat', Nat.mod_eq_of_lt ha, Nat.mod_eq_of_lt hb]
theorem split_at (k n : Nat) : n % 256 ^ (k + 1) = n / 256 ^ k % 256 * 256 ^ k + n % 256 ^ k := by
 rw [Nat.pow_succ, Nat.mod_mul, Nat.mul_comm (256 ^ k), Nat.add_comm]
theorem cmp_low : ∀ (k a b : Nat), Lib.compareBytes (lowB k a) (lowB k b) = acmp (a % 256 ^ k) (b % 256 ^ k)
 | 0, a, b => by simp [lowB, Lib.compareBytes, acmp, Nat.mod_one]
 | k + 1, a, b => by
  have ih := cmp_low k a b
  have ha : a / 256 ^ k % 256 < 256 := Nat.mod_lt _ (by decide)
  have hb : b / 256 ^ k % 256 < 256 := Nat.mod_lt _ (by decide)
  have h1 := byte_lt _ _ ha hb
  have h2 := byte_lt _ _ hb ha
  rw [lowB, lowB, Lib.compareBytes, ih, split_at, split_at]
  have hp : 0 < 256 ^ k := Nat.pow_pos (by decide)
  have la : a % 256 ^ k < 256 ^ k := Nat.mod_lt _ hp
  have lb : b % 256 ^ k < 256 ^ k := Nat.mod_lt _ hp
  generalize a / 256 ^ k % 256 = x at *
  generalize b / 256 ^ k % 256 = y at *
  generalize a % 256 ^ k = p at *
  generalize b % 256 ^ k = q at *
  generalize 256 ^ k = r at *
  unfold acmp
  by_cases hxy : x < y
  ·have : (x + 1) * r ≤ y * r := Nat.mul_le_mul_right r hxy
   rw [Nat.add_mul] at this
   rw [if_pos (h1.2 hxy), if_pos (by omega)]
  ·by_cases hyx : y < x
   ·have : (y + 1) * r ≤ x * r := Nat.mul_le_mul_right r hyx
    rw [Nat.add_mul] at this
    rw [if_neg (fun h => hxy (h1.1 h)), if_pos (h2.2 hyx), if_neg (by omega), if_pos (by omega)]
   ·obtain rfl : x = y := by omega
    rw [if_neg (fun h => hxy (h1.1 h)), if_neg (fun h => hyx (h2.1 h))]
    by_cases hpq : p < q
    ·rw [if_pos hpq, if_pos (by omega)]
    ·by_cases hqp : q < p
     ·rw [if_neg hpq, if_pos hqp, if_neg (by omega), if_pos (by omega)]
     ·rw [if_neg hpq, if_neg hqp, if_neg (by omega), if_neg (by omega)]
theorem lowB_len : ∀ (k n : Nat), (lowB k n).length = k
 | 0, _ => rfl
 | k + 1, n => by rw [lowB, List.length_cons, lowB_len k n]
theorem lowB_at : ∀ (k n j : Nat), j < k → (lowB k n)[j]? = some (UInt8.ofNat (n / 256 ^ (k - 1 - j) % 256))
 | 0, _, _, h => by omega
 | k + 1, n, 0, _ => by rw [lowB]; simp
 | k + 1, n, j + 1, h => by
  rw [lowB, List.getElem?_cons_succ, lowB_at k n j (by omega)]
  rw [show k - 1 - j = k + 1 - 1 - (j + 1) by omega]
def AdAt (W : World) (p : Addr) (n : Nat) : Prop := ∀ j : Nat, j < 20 → W.cell? (p.add j) = some (.int .u8 ((adB n j : Nat) : Int))
theorem AdAt.bytes {W : World} {p : Addr} {n : Nat} (h : AdAt W p n) : ∀ (j : Nat) (x : UInt8), (lowB 20 n)[j]? = some x → W.cell? (p.add j) = some (.int .u8 x.toNat) := fun j x hx => by
 have hj : j < 20 := by
  have := (List.getElem?_eq_some_iff.1 hx).1
  rwa [lowB_len] at this
 rw [lowB_at 20 n j hj] at hx
 injection hx with hx
 subst hx
 rw [h j hj]
 unfold adB
 rw [UInt8.toNat_ofNat', Nat.mod_eq_of_lt (Nat.mod_lt _ (by decide))]
theorem run_adBytes {W : World} {P : Program} {p : Addr} {a : Nat} (ha : AdAt W p a) : (Extern.Bytes.loadBytes p 20 .empty).run P W = .ok ⟨(lowB 20 a).toArray⟩ W := by
 have h := Lib.run_loadBytesX (P := P) W ((lowB 20 a).map fun b => (b.toNat : Int)) p .empty (fun j x hx => by
  rw [List.getElem?_map] at hx
  cases hb : (lowB 20 a)[j]? with
  | none => rw [hb] at hx; cases hx
  | some b =>
   rw [hb] at hx
   injection hx with hx
   subst hx
   exact ha.bytes j b hb)
 rw [List.length_map, lowB_len] at h
 rw [h]
 have e : Lib.bytesOf ((lowB 20 a).map fun b => (b.toNat : Int)) = lowB 20 a := by
  simp [Lib.bytesOf, Function.comp_def]
 rw [e]
 simp
theorem run_compare {W : World} {P : Program} {p q : Addr} {a b c d : Nat} (ha : AdAt W p a) (hb : AdAt W q b) (la : a < 256 ^ 20) (lb : b < 256 ^ 20) : (Extern.BytealgCompare.compare #[.slice (some p) 20 c, .slice (some q) 20 d]).run P W = .ok (.int .i64 (acmp a b)) W := by
 have h1 := run_adBytes (P := P) ha
 have h2 := run_adBytes (P := P) hb
 change Sem.run P (do pure (goInt (Extern.BytealgCompare.cmp (← Extern.Bytes.bytesOf (.slice (some p) 20 c)) (← Extern.Bytes.bytesOf (.slice (some q) 20 d))))) W = _
 simp only [Extern.Bytes.bytesOf, Sem.run_bind, Sem.run_pure, Result.andThen, h1, h2]
 rw [Lib.cmp_eq]
 have key := cmp_low 20 a b
 rw [Nat.mod_eq_of_lt la, Nat.mod_eq_of_lt lb] at key
 simp only [key]
 rfl
def adC (n : Nat) : Array Value := (adL n).toArray
theorem adC_size (n : Nat) : (adC n).size = 20 := by simp [adC, adL_len]
theorem adL_at (n j : Nat) (h : j < 20) : (adL n)[j]? = some (.int .u8 ((adB n j : Nat) : Int)) := by simp [adL, h]
theorem add_lit (B o j : Nat) : (⟨B, o, none⟩ : Addr).add j = ⟨B, o + j, none⟩ := by unfold Addr.add; split <;> simp_all
theorem Has.ad {W : World} {B : Nat} {t : TypeId} {n : Nat} (h : Has W B t (adC n)) : AdAt W ⟨B, 0, none⟩ n := fun j hj => by
 rw [add_lit, Nat.zero_add]
 exact h.cell j _ (by simp [adC, adL_at n j hj])
theorem compare_any (W : World) (p q : Addr) (a b c d : Nat) (ha : AdAt W p a) (hb : AdAt W q b) (la : a < 256 ^ 20) (lb : b < 256 ^ 20) :
  Calls Tryz.prog 87 #[.slice (some p) 20 c, .slice (some q) 20 d] W fun e w' => e = .returned (.int .i64 (acmp a b)) ∧ W = w' := by
 have HR := hid (run_compare (P := Tryz.prog) (c := c) (d := d) ha hb la lb)
 clear ha hb la lb
 generalize acmp a b = r at *
 go_enter Tryz.func87, Tryz.ntmps87
 go_wp2
 rw [run_callFunc_extern Tryz.func114 (by kernel_rfl) (by kernel_rfl) (by kernel_rfl) (e := Extern.BytealgCompare.compare) (by kernel_rfl), HR.out]
 simp only [Result.andThen]
 rw [Oper.upon_value]
 go_wp2
 go_ret
 exact ⟨rfl, rfl⟩
theorem acmp_zero (a b : Nat) : acmp a b = 0 ↔ a = b := by
 unfold acmp
 split
 ·constructor <;> intro h <;> omega
 ·split
  ·constructor <;> intro h <;> omega
  ·constructor <;> intro h <;> omega
def eqA (a b : Nat) : Bool := (List.range 20).all fun j => adB a j == adB b j
theorem eqA_iff {a b : Nat} (ha : a < 256 ^ 20) (hb : b < 256 ^ 20) : eqA a b = decide (a = b) := by
 rw [Bool.eq_iff_iff, decide_eq_true_eq]
 unfold eqA
 rw [List.all_eq_true]
 constructor
 ·intro h
  have hl : lowB 20 a = lowB 20 b := by
   apply List.ext_getElem?
   intro j
   by_cases hj : j < 20
   ·rw [lowB_at 20 a j hj, lowB_at 20 b j hj]
    have e := h j (List.mem_range.2 hj)
    have e' : adB a j = adB b j := by simpa using e
    unfold adB at e'
    rw [show 20 - 1 - j = 19 - j by omega, e']
   ·rw [List.getElem?_eq_none (by rw [lowB_len]; omega), List.getElem?_eq_none (by rw [lowB_len]; omega)]
  have k1 := cmp_low 20 a b
  have k2 := cmp_low 20 b b
  rw [hl, k2] at k1
  rw [Nat.mod_eq_of_lt ha, Nat.mod_eq_of_lt hb] at k1
  rw [(acmp_zero b b).2 rfl] at k1
  exact (acmp_zero a b).1 k1.symm
 ·rintro rfl j _
  exact beq_self_eq_true _
theorem adC_get (n i : Nat) (h : i < 20) : (adC n)[i]? = some (.int .u8 ((adB n i : Nat) : Int)) := by simp [adC, adL_at n i h]
theorem part20 (n : Nat) (i : Nat) (hi : i < 20) (w : World) : (part 5 (adC n) i).run Tryz.prog w = .ok (.int .u8 ((adB n i : Nat) : Int)) w := by
 have a3 := Tryz.isAgg5
 have hg := adC_get n i hi
 unfold part
 simp [go_sem, a3, hg]
theorem equal_u8 (d : Nat) (x y : Int) (w : World) : (Op.equalIn (d + 1) 5 (.int .u8 x) (.int .u8 y)).run Tryz.prog w = .ok (x == y) w := by
 rw [Op.equalIn]
 simp only [Sem.run_bind, run_underlying Tryz.underlying5, Result.andThen_ok]
 simp [go_sem]
theorem eq_loop20 (A B : Nat) (w : World) : ∀ l : List Nat, (∀ i, i ∈ l → i < 20) →
  (forIn (m := Sem) l ((none : Option Bool), ()) fun i _ => do
   let x ← part 5 (adC A) i
   let y ← part 5 (adC B) i
   let r ← Op.equalIn 9999 5 x y
   if (!r) = true then pure (ForInStep.done (some false, ())) else pure (ForInStep.yield (none, ()))).run Tryz.prog w = .ok (if l.all (fun j => adB A j == adB B j) = true then (none, ()) else (some false, ())) w
 | [], _ => by simp [go_sem]
 | i :: l, hl => by
  have hi := hl i (by simp)
  have ih := eq_loop20 A B w l (fun j hj => hl j (by simp [hj]))
  rw [List.forIn_cons]
  simp only [Sem.run_bind, part20 A i hi, part20 B i hi, equal_u8 9998, Result.andThen_ok]
  by_cases h : adB A i = adB B i
  ·have hb : (((adB A i : Nat) : Int) == ((adB B i : Nat) : Int)) = true := by rw [h]; exact beq_self_eq_true _
   have hn : (adB A i == adB B i) = true := by rw [h]; exact beq_self_eq_true _
   simp only [hb, Bool.not_true, Bool.false_eq_true, if_false, Sem.run_pure, Result.andThen_ok, List.all_cons, hn, Bool.true_and]
   exact ih
  ·have hb : (((adB A i : Nat) : Int) == ((adB B i : Nat) : Int)) = false := beq_eq_false_iff_ne.2 (by omega)
   have hn : (adB A i == adB B i) = false := beq_eq_false_iff_ne.2 h
   simp only [hb, Bool.not_false, if_true, Sem.run_pure, Result.andThen_ok, List.all_cons, hn, Bool.false_and, Bool.false_eq_true, if_false]
theorem eq20 (a b : Nat) (ha : a < 256 ^ 20) (hb : b < 256 ^ 20) (w : World) : (Op.equalIn 10000 25 (.agg (adC a)) (.agg (adC b))).run Tryz.prog w = .ok (decide (a = b)) w := by
 have z3 := Tryz.sizeOf5
 rw [← eqA_iff ha hb]
 rw [show (10000 : Nat) = 9999 + 1 from rfl, Op.equalIn]
 simp only [Sem.run_bind, run_underlying Tryz.underlying25, Result.andThen_ok, z3]
 simp only [Std.Legacy.Range.forIn_eq_forIn_range', Std.Legacy.Range.size, Nat.sub_zero, Nat.add_sub_cancel, Nat.div_one, Nat.mul_one]
 rw [eq_loop20 a b w (List.range' 0 20) (fun i hi => by rw [List.mem_range'_1] at hi; omega)]
 rw [show List.range' 0 20 = List.range 20 from rfl]
 show Result.andThen (.ok (if eqA a b = true then (none, ()) else (some false, ())) w) _ = _
 cases h : eqA a b <;> simp [go_sem]
theorem wpList_load_known {P : Program} {ops : Array Oper} {rest : List Oper} {o : Oper} {a : Act} {w : World} {Q : Exit → Act → World → Prop} (hw : Region.wanted o (yielded ops a.tmps) = true) (ty : TypeId) (x : Operand) (ho : o.op = .load ty x) (p : Addr) (hx : a.eval x = .pointer (some p)) (v : Value) (hr : (loadVar ty p).run P w = .ok v w)
  (h : wpList P ops Q rest (a.put o.dst v) w) : wpList P ops Q (o :: rest) a w :=
 wpList_step fun _ hK => by
  rw [if_pos hw]
  unfold Oper.wp execOp
  simp only [ho, hx, Instr.loadAt, Instr.sureAddr, Sem.run_bind, Sem.run_pure, Result.andThen_ok, hr]
  exact hK _ _ h
theorem run_loadVar_at {P : Program} (w : World) (a : Addr) (ty : TypeId) (cs : List Value) (d : TypeDesc) (hc : ∀ (j : Nat) (v : Value), cs[j]? = some v → w.cell? (a.add j) = some v)
  (hu : P.underlying ty = some d) (hd : d.isRow = true) (hi : (P.info? ty).map (·.size) = some cs.length) :
  (loadVar ty a).run P w = .ok (.agg cs.toArray) w := by
 have hl : (loadCells a cs.length).run P w = .ok cs.toArray w := run_loadCells_list (P := P) w a cs hc
 cases hq : P.info? ty with
 | none => simp [hq] at hi
 | some i =>
  have hs : i.size = cs.length := by simpa [hq] using hi
  have hagg : (isAgg ty).run P w = .ok true w := by
   unfold isAgg
   rw [Sem.run_bind, run_underlying hu w]
   cases d <;> simp_all
  simp [loadVar, Sem.run_bind, hagg, sizeOf, typeInfo, hq, hs, hl]
theorem infoAd : (Tryz.prog.info? 25).map (·.size) = some 20 := by kernel_rfl
theorem wpQuiet_load {P : Program} {ops : Array Oper} {C : World → Prop} {rest : List Oper} {o : Oper} {a : Act} {Q : Act → Prop} (hw : Region.wanted o (yielded ops a.tmps) = true) (ty : TypeId) (x : Operand) (ho : o.op = .load ty x) (p : Addr) (hx : a.eval x = .pointer (some p)) (v : Value) (hr : ∀ w, C w → (loadVar ty p).run P w = .ok v w)
  (h : wpQuiet P ops C Q rest (a.put o.dst v)) : wpQuiet P ops C Q (o :: rest) a :=
 BigFrame.wpQuiet_want hw fun K hK => ⟨v, fun w hc => by
  unfold Oper.quietAt execOp
  simp only [ho, hx, Instr.loadAt, Instr.sureAddr, Sem.run_bind, Sem.run_pure, Result.andThen_ok, hr w hc]
  exact ⟨rfl, rfl⟩, hK _ h⟩
end
section
open Go Go.RowKit
structure Ac where
 at_ : Nat
 bal : Nat
 non : Int
 code : ByteArray
 slots : List Sl
def acL (x : Ac) (sv : Value) : List Value := adL x.at_ ++ [.int .u64 (lim x.bal 0), .int .u64 (lim x.bal 1), .int .u64 (lim x.bal 2), .int .u64 (lim x.bal 3), .int .i64 x.non, .string x.code, sv]
def acC (x : Ac) (sv : Value) : Array Value := (acL x sv).toArray
theorem acL_len (x : Ac) (sv : Value) : (acL x sv).length = 27 := by simp [acL, adL_len]
theorem acC_size (x : Ac) (sv : Value) : (acC x sv).size = 27 := by simp [acC, acL_len]
theorem acL_more (x : Ac) (sv : Value) (j : Nat) : (acL x sv)[20 + j]? = [.int .u64 (lim x.bal 0), .int .u64 (lim x.bal 1), .int .u64 (lim x.bal 2), .int .u64 (lim x.bal 3), .int .i64 x.non, .string x.code, sv][j]? := by
 unfold acL
 rw [List.getElem?_append_right (by rw [adL_len]; omega), adL_len, Nat.add_sub_cancel_left]
theorem acC_more (x : Ac) (sv : Value) (j : Nat) : (acC x sv)[20 + j]? = [.int .u64 (lim x.bal 0), .int .u64 (lim x.bal 1), .int .u64 (lim x.bal 2), .int .u64 (lim x.bal 3), .int .i64 x.non, .string x.code, sv][j]? := by
 rw [← acL_more x sv j]
 simp [acC]
theorem acL_at (x : Ac) (sv : Value) (j : Nat) (h : j < 20) : (acL x sv)[j]? = some (.int .u8 ((adB x.at_ j : Nat) : Int)) := by
 unfold acL
 rw [List.getElem?_append_left (by rw [adL_len]; exact h)]
 simp [adL, h]
theorem acL_one (x : Ac) (sv : Value) (hs : sv.oneCell' = true) : ∀ u ∈ acL x sv, u.oneCell' = true := fun u hu => by
 unfold acL adL at hu
 rcases List.mem_append.1 hu with h | h
 ·obtain ⟨i, _, rfl⟩ := List.mem_map.1 h
  rfl
 ·simp only [List.mem_cons, List.not_mem_nil, or_false] at h
  rcases h with rfl | rfl | rfl | rfl | rfl | rfl | rfl
  all_goals first | rfl | exact hs
structure AcOk (x : Ac) : Prop where
 at_ : x.at_ < 256 ^ 20
 bal : W256 x.bal
 non : I64 x.non
 code : x.code.size ≤ 140737488355328
theorem infoAc : (Tryz.prog.info? 31).map (·.size) = some 27 := by kernel_rfl
theorem Has.acc {W : World} {B : Nat} {x : Ac} {sv : Value} (h : Has W B 31 (acC x sv)) : W.cell? ⟨B, 20, none⟩ = some (.int .u64 (lim x.bal 0)) ∧ W.cell? ⟨B, 21, none⟩ = some (.int .u64 (lim x.bal 1)) ∧ W.cell? ⟨B, 22, none⟩ = some (.int .u64 (lim x.bal 2)) ∧ W.cell? ⟨B, 23, none⟩ = some (.int .u64 (lim x.bal 3)) ∧
  W.cell? ⟨B, 24, none⟩ = some (.int .i64 x.non) ∧ W.cell? ⟨B, 25, none⟩ = some (.string x.code) ∧ W.cell? ⟨B, 26, none⟩ = some sv :=
 ⟨h.cell 20 _ (acC_more x sv 0), h.cell 21 _ (acC_more x sv 1), h.cell 22 _ (acC_more x sv 2), h.cell 23 _ (acC_more x sv 3), h.cell 24 _ (acC_more x sv 4), h.cell 25 _ (acC_more x sv 5), h.cell 26 _ (acC_more x sv 6)⟩
theorem Has.accLoad {W : World} {B : Nat} {x : Ac} {sv : Value} (h : Has W B 31 (acC x sv)) : (loadVar 31 ⟨B, 0, none⟩).run Tryz.prog W = .ok (.agg (acC x sv)) W :=
 run_loadVar_row _ _ _ _ _ (0, 0) _ h Tryz.underlying31 rfl (by rw [acC_size]; exact infoAc)
end
section
open Go Go.RowKit
attribute [local go_sem] Oper.semAt_some Grows wide_fn
end
section
open Go Go.RowKit
attribute [local go_sem] Oper.semAt_some Grows wide_fn eq4
noncomputable def emptyB (x : Ac) : Bool := decide (x.bal = 0) && (decide (x.non = 0) && (decide (x.code.size = 0) && decide (x.slots.length = 0)))
noncomputable def mayB (x : Ac) : Bool := decide (0 ≤ x.non) && (decide (x.non ≤ 9007199254740992) && (decide (x.code.size ≤ 24576) && rightB' x.slots))
theorem no_bytes (b : ByteArray) : b.toList.isEmpty = decide (b.size = 0) := by
 rw [ByteArray.toList_eq]
 have h : b.data.toList.length = b.size := by simp
 cases hl : b.data.toList with
 | nil => rw [hl] at h; simp at h; rw [decide_eq_true h.symm]; rfl
 | cons c r => rw [hl] at h; simp at h; rw [decide_eq_false (by omega)]; rfl
theorem empty_any (W : World) (x : Ac) (sv : Value) (hx : AcOk x) (hs : SlotsAt W sv x.slots) :
  Calls Tryz.prog 14 #[.agg (acC x sv)] W fun e w' => e = .returned (.bool (emptyB x)) ∧ Below W.heap.size W w' := by
 have B := Has.new W 31 (acC x sv)
 have Q := hid (newA W (.cells (acC x sv) 31))
 obtain ⟨a, cap, rfl, hn, hc⟩ := hs.shape
 obtain ⟨c0, c1, c2, c3, c4, c5, c6⟩ := B.acc
 have hz := zero_w x.bal hx.bal
 have HRES := hid (show emptyB x = (decide (x.bal = 0) && (decide (x.non = 0) && (decide (x.code.size = 0) && decide (x.slots.length = 0)))) from rfl)
 have hno := hx.non
 unfold I64 at hno
 have hcs := no_bytes x.code
 generalize emptyB x = res at *
 generalize acC x (.slice a x.slots.length cap) = cs at *
 generalize x.slots.length = n at *
 generalize lim x.bal 0 = l0 at *
 generalize lim x.bal 1 = l1 at *
 generalize lim x.bal 2 = l2 at *
 generalize lim x.bal 3 = l3 at *
 generalize x.non = no at *
 generalize x.code = code at *
 replace B := hid B
 replace hcs := hid hcs
 clear hs hx
 have hn0 : (0 : Int) ≤ (n : Int) := by omega
 by_cases h1 : x.bal = 0
 ·rw [decide_eq_true h1] at hz HRES
  clear h1
  by_cases h2 : no = 0
  ·have h2I : (no == 0) = true := by simp [h2]
   rw [decide_eq_true h2] at HRES
   clear h2
   by_cases h3 : code.size = 0
   ·have h3I : code.toList.isEmpty = true := (hcs.out).trans (decide_eq_true h3)
    rw [decide_eq_true h3] at HRES
    clear h3
    by_cases h4 : n = 0
    ·subst h4
     rw [decide_eq_true rfl] at HRES
     go_enter Tryz.func14, Tryz.ntmps14
     go_wp2_with fail
     go_ret
     exact ⟨by rw [HRES.out]; rfl, Q.out⟩
    ·have h4I : ((n : Int) == 0) = false := by rw [beq_eq_false_iff_ne]; omega
     rw [decide_eq_false h4] at HRES
     clear h4
     go_enter Tryz.func14, Tryz.ntmps14
     go_wp2_with fail
     go_ret
     exact ⟨by rw [HRES.out]; rfl, Q.out⟩
   ·have h3I : code.toList.isEmpty = false := (hcs.out).trans (decide_eq_false h3)
    rw [decide_eq_false h3] at HRES
    clear h3
    go_enter Tryz.func14, Tryz.ntmps14
    go_wp2_with fail
    go_ret
    exact ⟨by rw [HRES.out]; rfl, Q.out⟩
  ·have h2I : (no == 0) = false := by rw [beq_eq_false_iff_ne]; exact h2
   rw [decide_eq_false h2] at HRES
   clear h2
   go_enter Tryz.func14, Tryz.ntmps14
   go_wp2_with fail
   go_ret
   exact ⟨by rw [HRES.out]; rfl, Q.out⟩
 ·rw [decide_eq_false h1] at hz HRES
  clear h1
  go_enter Tryz.func14, Tryz.ntmps14
  go_wp2_with fail
  go_ret
  exact ⟨by rw [HRES.out]; rfl, Q.out⟩
theorem may_any (W : World) (x : Ac) (sv : Value) (hx : AcOk x) (hs : SlotsAt W sv x.slots) :
  Calls Tryz.prog 56 #[.agg (acC x sv)] W fun e w' => e = .returned (.bool (mayB x)) ∧ Below W.heap.size W w' := by
 have B := Has.new W 31 (acC x sv)
 have hq := newA W (.cells (acC x sv) 31)
 have Q := hid hq
 obtain ⟨c0, c1, c2, c3, c4, c5, c6⟩ := B.acc
 have HC := hid (right_slots _ sv x.slots (hs.later hq))
 have HRES := hid (show mayB x = (decide (0 ≤ x.non) && (decide (x.non ≤ 9007199254740992) && (decide (x.code.size ≤ 24576) && rightB' x.slots))) from rfl)
 have hcs := hx.code
 generalize mayB x = res at *
 generalize rightB' x.slots = rb at *
 generalize acC x sv = cs at *
 generalize x.non = no at *
 generalize x.code = code at *
 replace B := hid B
 clear hs hx hq
 have hcI : (code.size : Int) ≤ 140737488355328 := by omega
 clear hcs
 by_cases h1 : 0 ≤ no
 ·rw [decide_eq_true h1] at HRES
  by_cases h2 : no ≤ 9007199254740992
  ·rw [decide_eq_true h2] at HRES
   by_cases h3 : code.size ≤ 24576
   ·rw [decide_eq_true h3] at HRES
    have h3I : (code.size : Int) ≤ 24576 := by omega
    clear h3
    go_enter Tryz.func56, Tryz.ntmps56
    go_wp2_with fail
    refine HC.out.mono ?_
    rintro _ w1 ⟨rfl, hb⟩
    have QE := hid (Q.out.trans (hb.mono Q.out.size))
    clear hb HC
    go_wp2_with fail
    go_ret
    exact ⟨by rw [HRES.out]; rfl, QE.out⟩
   ·rw [decide_eq_false h3] at HRES
    have h3I : ¬ (code.size : Int) ≤ 24576 := by omega
    clear h3
    go_enter Tryz.func56, Tryz.ntmps56
    go_wp2_with fail
    go_ret
    exact ⟨by rw [HRES.out]; rfl, Q.out⟩
  ·rw [decide_eq_false h2] at HRES
   go_enter Tryz.func56, Tryz.ntmps56
   go_wp2_with fail
   go_ret
   exact ⟨by rw [HRES.out]; rfl, Q.out⟩
 ·rw [decide_eq_false h1] at HRES
  go_enter Tryz.func56, Tryz.ntmps56
  go_wp2_with fail
  go_ret
  exact ⟨by rw [HRES.out]; rfl, Q.out⟩
theorem stray_any (W : World) (x : Ac) (sv : Value) (hx : AcOk x) (hs : SlotsAt W sv x.slots) :
  Calls Tryz.prog 31 #[.agg (acC x sv)] W fun e w' => e = .returned (.bool (emptyB x || !mayB x)) ∧ Below W.heap.size W w' := by
 have hB := Has.new W 31 (acC x sv)
 have hq := newA W (.cells (acC x sv) 31)
 obtain ⟨V, hV⟩ : ∃ V, W.alloc (.cells (acC x sv) 31) = V := ⟨_, rfl⟩
 rw [hV] at hB hq
 have B := hid hB
 have Q := hid hq
 have HL := hid (fun (X : World) (hX : Below V.heap.size V X) => (hB.later hX).accLoad)
 have HE := hid (empty_any V x sv hx (hs.later hq))
 have HM := hid (fun (X : World) (hX : Below V.heap.size V X) => may_any X x sv hx ((hs.later hq).later hX))
 generalize emptyB x = eb at *
 generalize mayB x = mb at *
 generalize acC x sv = cs at *
 clear hB hq hs hx
 have hl := HL.out V (Below.refl _ _)
 go_enter Tryz.func31, Tryz.ntmps31
 go_wp2_with (refine wpList_load_known rfl _ _ rfl _ rfl _ hl ?_)
 refine HE.out.mono ?_
 rintro _ w1 ⟨rfl, hb⟩
 have hl2 := HL.out w1 hb
 have Q1 := hid (Q.out.trans (hb.mono Q.out.size))
 have HM1 := hid (HM.out w1 hb)
 clear hb hl HE HM HL hV
 cases eb
 ·go_wp2_with (refine wpList_load_known rfl _ _ rfl _ rfl _ hl2 ?_)
  refine HM1.out.mono ?_
  rintro _ w2 ⟨rfl, hb⟩
  have Q2 := hid (Q1.out.trans (hb.mono Q1.out.size))
  clear hb hl2 HM1
  go_wp2_with fail
  go_ret
  exact ⟨rfl, Q2.out⟩
 ·go_wp2_with fail
  go_ret
  exact ⟨rfl, Q1.out⟩
end
section
open Go Go.RowKit
attribute [local go_sem] Oper.semAt_some Grows wide_fn
theorem Has.accAd {W : World} {B : Nat} {t : TypeId} {x : Ac} {sv : Value} (h : Has W B t (acC x sv)) : AdAt W ⟨B, 0, none⟩ x.at_ := fun j hj => by
 rw [add_lit, Nat.zero_add]
 exact h.cell j _ (by simp [acC, acL_at x sv j hj])
theorem order_any (W : World) (x : Ac) (sv : Value) (hx : AcOk x) (n : Nat) (hn : n < 256 ^ 20) :
  Calls Tryz.prog 54 #[.agg (acC x sv), .agg (adC n)] W fun e w' => e = .returned (.int .i64 (acmp x.at_ n)) ∧ Below W.heap.size W w' := by
 have hmx : Tryz.prog.follows .mixedOrders = true := by kernel_rfl
 have K1 := (Has.new W 31 (acC x sv)).alloc (.cells (adC n) 25)
 have K2 := Has.new (W.alloc (.cells (acC x sv) 31)) 25 (adC n)
 simp only [World.size_alloc] at K2
 have q0 := (newA W (.cells (acC x sv) 31)).alloc (by simp) (.cells (adC n) 25)
 obtain ⟨V, hV⟩ : ∃ V, (W.alloc (.cells (acC x sv) 31)).alloc (.cells (adC n) 25) = V := ⟨_, rfl⟩
 rw [hV] at K1 K2 q0
 have hx20 := hx.at_
 have HC := hid (fun z : Ext V => (show Calls Tryz.prog 87 #[.slice (some ⟨W.heap.size, 0, none⟩) 20 20, .slice (some ⟨W.heap.size + 1, 0, none⟩) 20 20] z.w fun e w' => e = .returned (.int .i64 (acmp x.at_ n)) ∧ ∃ y : Ext V, w' = y.w from
  (compare_any z.w _ _ x.at_ n 20 20 (K1.later z.below).accAd (K2.later z.below).ad hx20 hn).mono fun _ _ ⟨h1, h2⟩ => ⟨h1, z, h2.symm⟩))
 have Q := hid q0
 generalize acmp x.at_ n = r at *
 generalize acC x sv = cs at *
 generalize adC n = ds at *
 replace K1 := hid K1
 replace K2 := hid K2
 clear q0 hx hn hx20
 go_enter Tryz.func54, Tryz.ntmps54
 go_wp2_with fail
 refine wp_region_quietL (C := Grows V) hmx (by kernel_rfl) (grows_refl V) ?_
 repeat (go_big_quiet_step (first | (with_reducible exact HC.out _)))
 refine wpQuiet_nil ?_
 rintro _ ⟨z, rfl⟩
 have QE := hid (Q.out.trans (z.below.mono Q.out.size))
 go_wp2_with fail
 go_ret
 exact ⟨rfl, QE.out⟩
theorem RowT.lower {W : World} {base low : Nat} {v : Value} {l : List Sl} (h : RowT W base v l) (hl : low ≤ base) : RowT W low v l := by
 refine ⟨h.1, ?_⟩
 rcases h.2 with h' | ⟨g, cap, cur, e1, e2, e3, e4⟩
 ·exact .inl h'
 ·exact .inr ⟨g, cap, cur, e1, Nat.le_trans hl e2, e3, e4⟩
def DoneP (W : World) (ok : Bool) (out : List Sl) (e : Ending) (W' : World) : Prop :=
 ((ok = true ∧ out.length ≤ 1000 ∧ ∃ sv, e = .returned (.tuple #[sv, .int .i64 0]) ∧ RowT W' W.heap.size sv out) ∨ (ok = true ∧ ¬ out.length ≤ 1000 ∧ e = .returned (.tuple #[.slice none 0 0, .int .i64 2])) ∨ (ok = false ∧ e = .returned (.tuple #[.slice none 0 0, .int .i64 1]))) ∧ Below W.heap.size W W'
theorem merge_any (W : World) (sa sb : Value) (la lb : List Sl) (ha : SlotsAt W sa la) (hb : SlotsAt W sb lb) :
  Calls Tryz.prog 118 #[sa, sb] W (DoneP W (rightB' la && patchB lb) (mergeL la lb)) := by
 have HA := hid ha
 have HB := hid hb
 have H1 := hid (right_slots W sa la ha)
 have HRA := hid (fun (h : rightB' la = true) => ((rightB_iff' la).1 h).1)
 have HRB := hid (fun (h : patchB lb = true) => ((patchB_iff lb).1 h).1)
 clear ha hb
 generalize hra : rightB' la = ra at *
 generalize hrb : patchB lb = rb at *
 have HEB := hid hrb
 clear hra hrb
 go_enter Tryz.func118, Tryz.ntmps118
 go_wp2_with fail
 refine H1.out.mono ?_
 rintro _ W1 ⟨rfl, q1⟩
 have Q1 := hid q1
 clear q1 H1
 cases ra
 ·clear HRA HRB
  go_wp2_with fail
  go_ret2
  exact ⟨.inr (.inr ⟨by simp, rfl⟩), Q1.out⟩
 ·go_wp2_with fail
  refine (patch_any W1 sb lb (HB.out.later Q1.out)).mono ?_
  rintro _ W2 ⟨rfl, q2⟩
  rw [HEB.out]
  have Q2 := hid (Q1.out.trans (q2.mono Q1.out.size))
  clear q2 Q1 HEB
  cases rb
  ·clear HRA HRB
   go_wp2_with fail
   go_ret2
   exact ⟨.inr (.inr ⟨by simp, rfl⟩), Q2.out⟩
  ·have h1 := HRA.out trivial
   have h2 := HRB.out rfl
   have HL := hid (listed_any W2 sa sb la lb (HA.out.later Q2.out) (HB.out.later Q2.out) 147 behindF behind_ok (enters_of Tryz.func147 (by kernel_rfl) rfl) h1 h2)
   clear h1 h2 HRA HRB HA HB
   go_wp2_with fail
   refine HL.out.mono ?_
   rintro _ W3 ⟨hc, q3⟩
   have Q3 := hid (Q2.out.trans (q3.mono Q2.out.size))
   rcases hc with ⟨h4, sv, rfl, h5⟩ | ⟨h4, rfl⟩
   ·have K := hid (And.intro h4 (h5.lower Q2.out.size))
    clear h4 h5 q3 HL
    go_wp2_with fail
    go_ret2
    exact ⟨.inl ⟨rfl, K.out.1, sv, rfl, K.out.2⟩, Q3.out⟩
   ·have K := hid h4
    clear h4 q3 HL
    go_wp2_with fail
    go_ret2
    exact ⟨.inr (.inl ⟨rfl, K.out, rfl⟩), Q3.out⟩
end
section
open Go Go.RowKit
attribute [local go_sem] Oper.semAt_some Grows wide_fn eq4
theorem patchB_one (x : Sl) : patchB [x] = true := (patchB_iff _).2 ⟨by simp, by unfold Rise; simp⟩
theorem slots_one {W : World} {B : Nat} {k v : Nat} (h : Has W B 63 #[.int .u64 (lim k 0), .int .u64 (lim k 1), .int .u64 (lim k 2), .int .u64 (lim k 3), .int .u64 (lim v 0), .int .u64 (lim v 1), .int .u64 (lim v 2), .int .u64 (lim v 3)]) (hk : W256 k) (hv : W256 v) : SlotsAt W (.slice (some ⟨B, 0, none⟩) 1 1) [(k, v)] := by
 refine ⟨some ⟨B, 0, none⟩, 1, rfl, by simp, by omega, fun x hx => by simp at hx; subst hx; exact ⟨hk, hv⟩, fun i x hx => ?_⟩
 have hi : i = 0 := by
  have := (List.getElem?_eq_some_iff.1 hx).1
  simp at this
  exact this
 subst hi
 injection hx with hx
 subst hx
 refine ⟨_, rfl, fun j hj => ?_⟩
 rw [Addr.add_add]
 obtain rfl | rfl | rfl | rfl | rfl | rfl | rfl | rfl : j = 0 ∨ j = 1 ∨ j = 2 ∨ j = 3 ∨ j = 4 ∨ j = 5 ∨ j = 6 ∨ j = 7 := by omega
 ·exact h.cell 0 _ rfl
 ·exact h.cell 1 _ rfl
 ·exact h.cell 2 _ rfl
 ·exact h.cell 3 _ rfl
 ·exact h.cell 4 _ rfl
 ·exact h.cell 5 _ rfl
 ·exact h.cell 6 _ rfl
 ·exact h.cell 7 _ rfl
theorem DoneP.lower {W V : World} {ok : Bool} {out : List Sl} {e : Ending} {W' : World} (h : DoneP V ok out e W') (hb : Below W.heap.size W V) : DoneP W ok out e W' := by
 refine ⟨?_, hb.trans (h.2.mono hb.size)⟩
 rcases h.1 with ⟨h1, h2, sv, h3, h4⟩ | h1 | h1
 ·exact .inl ⟨h1, h2, sv, h3, h4.lower hb.size⟩
 ·exact .inr (.inl h1)
 ·exact .inr (.inr h1)
theorem DoneP.two {W : World} {ok : Bool} {out : List Sl} {e : Ending} {W' : World} (h : DoneP W ok out e W') : ∃ a b, e = .returned (.tuple #[a, b]) := by
 rcases h.1 with ⟨_, _, sv, h3, _⟩ | ⟨_, _, h3⟩ | ⟨_, h3⟩
 ·exact ⟨_, _, h3⟩
 ·exact ⟨_, _, h3⟩
 ·exact ⟨_, _, h3⟩
theorem put_any (W : World) (sv : Value) (l : List Sl) (hs : SlotsAt W sv l) (k v : Nat) (hk : W256 k) (hv : W256 v) :
  Calls Tryz.prog 92 #[sv, wv k, wv v] W (DoneP W (rightB' l) (mergeL l [(k, v)])) := by
 have K1 := (Has.new W 28 #[.int .u64 (lim k 0), .int .u64 (lim k 1), .int .u64 (lim k 2), .int .u64 (lim k 3)]).alloc (.cells #[.int .u64 (lim v 0), .int .u64 (lim v 1), .int .u64 (lim v 2), .int .u64 (lim v 3)] 28)
 have K2 := Has.new (W.alloc (.cells #[.int .u64 (lim k 0), .int .u64 (lim k 1), .int .u64 (lim k 2), .int .u64 (lim k 3)] 28)) 28 #[.int .u64 (lim v 0), .int .u64 (lim v 1), .int .u64 (lim v 2), .int .u64 (lim v 3)]
 have K3 := Has.new ((W.alloc (.cells #[.int .u64 (lim k 0), .int .u64 (lim k 1), .int .u64 (lim k 2), .int .u64 (lim k 3)] 28)).alloc (.cells #[.int .u64 (lim v 0), .int .u64 (lim v 1), .int .u64 (lim v 2), .int .u64 (lim v 3)] 28)) 63 #[.int .u64 (lim k 0), .int .u64 (lim k 1), .int .u64 (lim k 2), .int .u64 (lim k 3), .int .u64 (lim v 0), .int .u64 (lim v 1), .int .u64 (lim v 2), .int .u64 (lim v 3)]
 simp only [World.size_alloc] at K2 K3
 have Q := hid (((newA W (.cells #[.int .u64 (lim k 0), .int .u64 (lim k 1), .int .u64 (lim k 2), .int .u64 (lim k 3)] 28)).alloc (by simp) (.cells #[.int .u64 (lim v 0), .int .u64 (lim v 1), .int .u64 (lim v 2), .int .u64 (lim v 3)] 28)).alloc (by simp; omega) (.cells #[.int .u64 (lim k 0), .int .u64 (lim k 1), .int .u64 (lim k 2), .int .u64 (lim k 3), .int .u64 (lim v 0), .int .u64 (lim v 1), .int .u64 (lim v 2), .int .u64 (lim v 3)] 63))
 have a0 := K1.cell 0 _ rfl
 have b0 := K2.cell 0 _ rfl
 have a1 := K1.cell 1 _ rfl
 have b1 := K2.cell 1 _ rfl
 have a2 := K1.cell 2 _ rfl
 have b2 := K2.cell 2 _ rfl
 have a3 := K1.cell 3 _ rfl
 have b3 := K2.cell 3 _ rfl
 have HM := hid (merge_any (((W.alloc (.cells #[.int .u64 (lim k 0), .int .u64 (lim k 1), .int .u64 (lim k 2), .int .u64 (lim k 3)] 28)).alloc (.cells #[.int .u64 (lim v 0), .int .u64 (lim v 1), .int .u64 (lim v 2), .int .u64 (lim v 3)] 28)).alloc (.cells #[.int .u64 (lim k 0), .int .u64 (lim k 1), .int .u64 (lim k 2), .int .u64 (lim k 3), .int .u64 (lim v 0), .int .u64 (lim v 1), .int .u64 (lim v 2), .int .u64 (lim v 3)] 63)) sv (.slice (some ⟨W.heap.size + 1 + 1, 0, none⟩) 1 1) l [(k, v)] (hs.later Q.out) (slots_one K3 hk hv))
 rw [patchB_one, Bool.and_true] at HM
 unfold wv
 generalize rightB' l = ok at *
 generalize mergeL l [(k, v)] = out at *
 clear hs hk hv
 generalize lim k 0 = k0 at *
 generalize lim k 1 = k1 at *
 generalize lim k 2 = k2 at *
 generalize lim k 3 = k3 at *
 generalize lim v 0 = v0 at *
 generalize lim v 1 = v1 at *
 generalize lim v 2 = v2 at *
 generalize lim v 3 = v3 at *
 replace K1 := hid K1
 replace K2 := hid K2
 replace K3 := hid K3
 go_enter Tryz.func92, Tryz.ntmps92
 go_wp2_with fail
 refine HM.out.mono ?_
 intro e W5 hd
 obtain ⟨x, y, rfl⟩ := hd.two
 have HD := hid (hd.lower Q.out)
 clear hd HM a0 a1 a2 a3 b0 b1 b2 b3
 go_wp2_with fail
 go_ret2
 exact HD.out
end
section
open Go Go.RowKit
theorem eq4d (k : Nat) (a b c d a' b' c' d' : Int) (w : World) : (Op.equalIn (k + 2) 28 (.agg #[.int .u64 a, .int .u64 b, .int .u64 c, .int .u64 d]) (.agg #[.int .u64 a', .int .u64 b', .int .u64 c', .int .u64 d'])).run Tryz.prog w = .ok (a == a' && b == b' && c == c' && d == d') w := by
 have u3 := Tryz.underlying26
 have a3 := Tryz.isAgg26
 have z3 := Tryz.sizeOf26
 rw [Op.equalIn]
 simp only [Sem.run_bind, run_underlying Tryz.underlying28, Result.andThen_ok]
 simp only [Std.Legacy.Range.forIn_eq_forIn_range', Std.Legacy.Range.size, Nat.sub_zero, Nat.add_sub_cancel, Nat.div_one, List.range'_succ, List.range'_zero, List.forIn_cons, List.forIn_nil]
 go_simp
 by_cases h1 : a = a' <;> by_cases h2 : b = b' <;> by_cases h3 : c = c' <;> by_cases h4 : d = d' <;> simp [h1, h2, h3, h4]
theorem eq8 (a b c d e f g h a' b' c' d' e' f' g' h' : Int) (w : World) : (Op.equalIn 10000 63 (.agg #[.int .u64 a, .int .u64 b, .int .u64 c, .int .u64 d, .int .u64 e, .int .u64 f, .int .u64 g, .int .u64 h]) (.agg #[.int .u64 a', .int .u64 b', .int .u64 c', .int .u64 d', .int .u64 e', .int .u64 f', .int .u64 g', .int .u64 h'])).run Tryz.prog w = .ok ((a == a' && b == b' && c == c' && d == d') && (e == e' && f == f' && g == g' && h == h')) w := by
 have a3 := Tryz.isAgg28
 have z3 := Tryz.sizeOf28
 rw [show (10000 : Nat) = 9999 + 1 from rfl, run_equalIn_struct (P := Tryz.prog) w 9999 63 _ _ (by kernel_rfl) (by kernel_rfl)]
 have hf : (Tryz.prog.fieldsOf 63).toList.map (fun f => (f.name, f.type, f.offset)) = [("Key", 28, 0), ("Value", 28, 4)] := by kernel_rfl
 generalize (Tryz.prog.fieldsOf 63).toList = l at hf
 rcases l with _ | ⟨x, _ | ⟨y, _ | ⟨z, l⟩⟩⟩
 ·cases hf
 ·simp at hf
 ·simp only [List.map_cons, List.map_nil, List.cons.injEq, Prod.mk.injEq, and_true] at hf
  obtain ⟨⟨h1, h2, h3⟩, h4, h5, h6⟩ := hf
  have e1 := eq4d 9997 a b c d a' b' c' d' w
  have e2 := eq4d 9997 e f g h e' f' g' h' w
  simp only [Nat.reduceAdd] at e1 e2
  generalize (a == a' && b == b' && c == c' && d == d') = p at *
  generalize (e == e' && f == f' && g == g' && h == h') = q at *
  unfold Op.eqFields Op.eqFields Op.eqFields
  simp [h1, h2, h3, h4, h5, h6, part, go_sem, a3, z3, e1, e2]
  cases p <;> cases q <;> simp
 ·simp at hf
theorem eq_slot (x y : Sl) (hx : W256 x.1 ∧ W256 x.2) (hy : W256 y.1 ∧ W256 y.2) : ((lim x.1 0 == lim y.1 0 && lim x.1 1 == lim y.1 1 && lim x.1 2 == lim y.1 2 && lim x.1 3 == lim y.1 3) && (lim x.2 0 == lim y.2 0 && lim x.2 1 == lim y.2 1 && lim x.2 2 == lim y.2 2 && lim x.2 3 == lim y.2 3)) = decide (x = y) := by
 rw [eqv_w x.1 y.1 hx.1 hy.1, eqv_w x.2 y.2 hx.2 hy.2]
 by_cases h : x = y
 ·subst h; simp
 ·rw [decide_eq_false h]
  refine Bool.eq_false_iff.2 fun e => h ?_
  rw [Bool.and_eq_true, decide_eq_true_eq, decide_eq_true_eq] at e
  exact Prod.ext e.1 e.2
end
section
open Go Go.RowKit
attribute [local go_sem] Oper.semAt_some Grows wide_fn Tryz.eqGuardType63
attribute [local go_sem high] eq8
theorem SlotsAt.at' {W : World} {b : Addr} {n cap : Nat} {l : List Sl} (h : SlotsAt W (.slice (some b) n cap) l) {i : Nat} {x : Sl} (hx : l[i]? = some x) : W.cell? (b.add (i * 8)) = some (.int .u64 (lim x.1 0)) ∧ W.cell? ⟨(b.add (i * 8)).block, (b.add (i * 8)).off + 1, none⟩ = some (.int .u64 (lim x.1 1)) ∧ W.cell? ⟨(b.add (i * 8)).block, (b.add (i * 8)).off + 2, none⟩ = some (.int .u64 (lim x.1 2)) ∧ W.cell? ⟨(b.add (i * 8)).block, (b.add (i * 8)).off + 3, none⟩ = some (.int .u64 (lim x.1 3)) ∧ W.cell? ⟨(b.add (i * 8)).block, (b.add (i * 8)).off + 4, none⟩ = some (.int .u64 (lim x.2 0)) ∧ W.cell? ⟨(b.add (i * 8)).block, (b.add (i * 8)).off + 5, none⟩ = some (.int .u64 (lim x.2 1)) ∧ W.cell? ⟨(b.add (i * 8)).block, (b.add (i * 8)).off + 6, none⟩ = some (.int .u64 (lim x.2 2)) ∧ W.cell? ⟨(b.add (i * 8)).block, (b.add (i * 8)).off + 7, none⟩ = some (.int .u64 (lim x.2 3)) := by
 obtain ⟨b', e, h'⟩ := h.at hx
 injection e with e
 subst e
 exact h'
theorem same_snoc {a b : List Sl} {n : Nat} (ha : a.length = n) (hb : b.length = n) (h : ∀ (j : Nat) (x y : Sl), a[j]? = some x → b[j]? = some y → x = y) : a = b := by
 refine List.ext_getElem? fun j => ?_
 by_cases hj : j < n
 ·rw [List.getElem?_eq_getElem (by omega), List.getElem?_eq_getElem (by omega)]
  exact congrArg some (h j _ _ (List.getElem?_eq_getElem (by omega)) (List.getElem?_eq_getElem (by omega)))
 ·rw [List.getElem?_eq_none (by omega), List.getElem?_eq_none (by omega)]
theorem same_any (W : World) (sa sb : Value) (la lb : List Sl) (ha : SlotsAt W sa la) (hb : SlotsAt W sb lb) :
  Calls Tryz.prog 36 #[sa, sb] W fun e w' => e = .returned (.bool (decide (la = lb))) ∧ Below W.heap.size W w' := by
 have hmx : Tryz.prog.follows .mixedOrders = true := by kernel_rfl
 obtain ⟨a, ca, rfl, ha1, ha2⟩ := ha.shape
 obtain ⟨b, cb, rfl, hb1, hb2⟩ := hb.shape
 have HA := hid ha
 have HB := hid hb
 obtain ⟨m, hm⟩ : ∃ m, la.length = m := ⟨_, rfl⟩
 obtain ⟨n, hn⟩ : ∃ n, lb.length = n := ⟨_, rfl⟩
 rw [hm] at HA ha1 ⊢
 rw [hn] at HB hb1 ⊢
 have HM := hid hm
 have HN := hid hn
 have hlc := hid (Nat.le_trans ha1 ha2)
 clear ha hb hm hn ha1 ha2 hb1 hb2
 by_cases hmn : m = n
 ·subst hmn
  have hres := hid (show ∀ X, Below W.heap.size W X → (∀ (j : Nat) (x y : Sl), la[j]? = some x → lb[j]? = some y → x = y) → (Ending.returned (.bool true) = .returned (.bool (decide (la = lb))) ∧ Below W.heap.size W X) from fun X hX h => ⟨by rw [decide_eq_true (same_snoc HM.out HN.out h)], hX⟩)
  have hno := hid (show ∀ X, Below W.heap.size W X → la ≠ lb → (Ending.returned (.bool false) = .returned (.bool (decide (la = lb))) ∧ Below W.heap.size W X) from fun X hX h => ⟨by rw [decide_eq_false h], hX⟩)
  obtain ⟨Post, hPost⟩ : ∃ Post : Ending → World → Prop, (fun (e : Ending) (w' : World) => e = .returned (.bool (decide (la = lb))) ∧ Below W.heap.size W w') = Post := ⟨_, rfl⟩
  replace hres := hid (show ∀ X, Below W.heap.size W X → (∀ (j : Nat) (x y : Sl), la[j]? = some x → lb[j]? = some y → x = y) → Post (.returned (.bool true)) X by rw [← hPost]; exact hres.out)
  replace hno := hid (show ∀ X, Below W.heap.size W X → la ≠ lb → Post (.returned (.bool false)) X by rw [← hPost]; exact hno.out)
  rw [hPost]
  clear hPost
  go_enter Tryz.func36, Tryz.ntmps36
  go_wp2_with fail
  go_loopw [5] (fun i wr => ∃ k : Nat, k ≤ m ∧ i = .int .i64 (k : Int) ∧ (∀ (j : Nat) (x y : Sl), j < k → la[j]? = some x → lb[j]? = some y → x = y) ∧ Below W.heap.size W wr) (fun i _ => m - (intOf i).toNat)
  case atStart => exact ⟨0, by omega, rfl, fun j x y h => absurd h (by omega), Below.refl _ _⟩
  case round =>
   obtain ⟨k, hk, rfl, hlt, hq⟩ := hrel
   have HLT := hid hlt
   have HQ := hid hq
   clear hlt hq
   by_cases hkn : k < m
   ·have hknI : (k : Int) < (m : Int) := by omega
    have hk0 : (0 : Int) ≤ (k : Int) := by omega
    have hkb : (k : Int) ≤ 9223372036854775806 := by have := hlc.out; omega
    obtain ⟨x, hx⟩ : ∃ x, la[k]? = some x := ⟨_, List.getElem?_eq_getElem (by have := HM.out; omega)⟩
    obtain ⟨y, hy⟩ : ∃ y, lb[k]? = some y := ⟨_, List.getElem?_eq_getElem (by have := HN.out; omega)⟩
    obtain ⟨ba, rfl, _⟩ := (HA.out.later HQ.out).at hx
    obtain ⟨bb, rfl, _⟩ := (HB.out.later HQ.out).at hy
    have hC := fun z : Ext wr => (HA.out.later (HQ.out.trans (z.below.mono HQ.out.size))).at' hx
    have hD := fun z : Ext wr => (HB.out.later (HQ.out.trans (z.below.mono HQ.out.size))).at' hy
    have wx := HA.out.wide hx
    have wy := HB.out.wide hy
    have hE := eq_slot x y wx wy
    have c0 := fun z : Ext wr => (hC z).1
    have c1 := fun z : Ext wr => (hC z).2.1
    have c2 := fun z : Ext wr => (hC z).2.2.1
    have c3 := fun z : Ext wr => (hC z).2.2.2.1
    have c4 := fun z : Ext wr => (hC z).2.2.2.2.1
    have c5 := fun z : Ext wr => (hC z).2.2.2.2.2.1
    have c6 := fun z : Ext wr => (hC z).2.2.2.2.2.2.1
    have c7 := fun z : Ext wr => (hC z).2.2.2.2.2.2.2
    have d0 := fun z : Ext wr => (hD z).1
    have d1 := fun z : Ext wr => (hD z).2.1
    have d2 := fun z : Ext wr => (hD z).2.2.1
    have d3 := fun z : Ext wr => (hD z).2.2.2.1
    have d4 := fun z : Ext wr => (hD z).2.2.2.2.1
    have d5 := fun z : Ext wr => (hD z).2.2.2.2.2.1
    have d6 := fun z : Ext wr => (hD z).2.2.2.2.2.2.1
    have d7 := fun z : Ext wr => (hD z).2.2.2.2.2.2.2
    have HK := hid hkn
    have HX := hid (And.intro hx hy)
    clear hkn hx hy wx wy hk hC hD
    by_cases hxy : x = y
    ·rw [decide_eq_true hxy] at hE
     have HXY := hid hxy
     clear hxy
     generalize lim x.1 0 = x0 at *
     generalize lim x.1 1 = x1 at *
     generalize lim x.1 2 = x2 at *
     generalize lim x.1 3 = x3 at *
     generalize lim x.2 0 = x4 at *
     generalize lim x.2 1 = x5 at *
     generalize lim x.2 2 = x6 at *
     generalize lim x.2 3 = x7 at *
     generalize lim y.1 0 = y0 at *
     generalize lim y.1 1 = y1 at *
     generalize lim y.1 2 = y2 at *
     generalize lim y.1 3 = y3 at *
     generalize lim y.2 0 = y4 at *
     generalize lim y.2 1 = y5 at *
     generalize lim y.2 2 = y6 at *
     generalize lim y.2 3 = y7 at *
     go_wp2_with fail
     refine wp_region_quietL (C := Grows wr) hmx (by kernel_rfl) (grows_refl wr) ?_
     repeat (go_big_quiet_step (fail))
     refine wpQuiet_nil ?_
     rintro _ ⟨z, rfl⟩
     have HE := hid (HQ.out.trans (z.below.mono HQ.out.size))
     clear c0 c1 c2 c3 c4 c5 c6 c7 d0 d1 d2 d3 d4 d5 d6 d7
     go_wp2_with fail
     go_roundw
     case rel => exact ⟨k + 1, by have := HK.out; omega, by simp, fun j x' y' hj hx hy => by
      by_cases hjk : j < k
      ·exact HLT.out j x' y' hjk hx hy
      ·obtain rfl : j = k := by omega
       rw [HX.out.1] at hx
       rw [HX.out.2] at hy
       injection hx with hx
       injection hy with hy
       subst hx hy
       exact HXY.out, HE.out⟩
     case measure => have := HK.out; simp [intOf]; omega
    ·rw [decide_eq_false hxy] at hE
     have HXY := hid (show la ≠ lb from fun h => hxy (by
      have h1 := HX.out.1
      rw [h, HX.out.2] at h1
      injection h1 with h1
      exact h1.symm))
     clear hxy
     generalize lim x.1 0 = x0 at *
     generalize lim x.1 1 = x1 at *
     generalize lim x.1 2 = x2 at *
     generalize lim x.1 3 = x3 at *
     generalize lim x.2 0 = x4 at *
     generalize lim x.2 1 = x5 at *
     generalize lim x.2 2 = x6 at *
     generalize lim x.2 3 = x7 at *
     generalize lim y.1 0 = y0 at *
     generalize lim y.1 1 = y1 at *
     generalize lim y.1 2 = y2 at *
     generalize lim y.1 3 = y3 at *
     generalize lim y.2 0 = y4 at *
     generalize lim y.2 1 = y5 at *
     generalize lim y.2 2 = y6 at *
     generalize lim y.2 3 = y7 at *
     go_wp2_with fail
     refine wp_region_quietL (C := Grows wr) hmx (by kernel_rfl) (grows_refl wr) ?_
     repeat (go_big_quiet_step (fail))
     refine wpQuiet_nil ?_
     rintro _ ⟨z, rfl⟩
     have HE := hid (HQ.out.trans (z.below.mono HQ.out.size))
     clear c0 c1 c2 c3 c4 c5 c6 c7 d0 d1 d2 d3 d4 d5 d6 d7
     go_wp2_with fail
     exact hno.out _ HE.out HXY.out
   ·have hknI : ¬ (k : Int) < (m : Int) := by omega
    have HR := hid (show ∀ (j : Nat) (x y : Sl), la[j]? = some x → lb[j]? = some y → x = y from fun j x y hx hy => HLT.out j x y (by
     have := (List.getElem?_eq_some_iff.1 hx).1
     have := HM.out
     omega) hx hy)
    go_wp2_with fail
    exact hres.out _ HQ.out HR.out
 ·have hI : ¬ (m : Int) = (n : Int) := by omega
  have hne := hid (show la ≠ lb from fun h => hmn (by rw [← HM.out, ← HN.out, h]))
  clear hmn
  go_enter Tryz.func36, Tryz.ntmps36
  go_wp2_with fail
  go_ret
  exact ⟨by rw [decide_eq_false hne.out]; rfl, Below.refl _ _⟩
end
section
open Go Go.RowKit
def StAt (W : World) (v : Value) (l : List Ac) : Prop :=
 ∃ a cap, v = .slice a l.length cap ∧ l.length ≤ cap ∧ cap ≤ 9223372036854775807 ∧ (∀ x ∈ l, AcOk x) ∧ ∀ (i : Nat) (x : Ac), l[i]? = some x → ∃ b sv, a = some b ∧ SlotsAt W sv x.slots ∧ ∀ (j : Nat) (u : Value), (acL x sv)[j]? = some u → W.cell? ((b.add (i * 27)).add j) = some u
theorem StAt.keep {W X : World} {v : Value} {l : List Ac} (h : StAt W v l) (hk : ∀ (a : Addr) (u : Value), W.cell? a = some u → X.cell? a = some u) : StAt X v l := by
 obtain ⟨a, cap, h1, h2, h3, h4, h5⟩ := h
 refine ⟨a, cap, h1, h2, h3, h4, fun i x hx => ?_⟩
 obtain ⟨b, sv, e, hs, hc⟩ := h5 i x hx
 exact ⟨b, sv, e, hs.keep hk, fun j u hj => hk _ _ (hc j u hj)⟩
theorem StAt.later {W X : World} {v : Value} {l : List Ac} (h : StAt W v l) (hb : Below W.heap.size W X) : StAt X v l := h.keep (cell_below hb)
theorem StAt.nil (W : World) : StAt W (.slice none 0 0) [] := ⟨none, 0, rfl, by simp, by omega, (fun x hx => by cases hx), fun i x hx => by simp at hx⟩
theorem StAt.shape {W : World} {v : Value} {l : List Ac} (h : StAt W v l) : ∃ a cap, v = .slice a l.length cap ∧ l.length ≤ cap ∧ cap ≤ 9223372036854775807 := by
 obtain ⟨a, cap, h1, h2, h3, _⟩ := h
 exact ⟨a, cap, h1, h2, h3⟩
theorem StAt.ok {W : World} {v : Value} {l : List Ac} (h : StAt W v l) {i : Nat} {x : Ac} (hx : l[i]? = some x) : AcOk x := by
 obtain ⟨a, cap, h1, h2, h3, h4, _⟩ := h
 exact h4 x (List.mem_of_getElem? hx)
structure AcIn (W : World) (p : Addr) (x : Ac) (sv : Value) : Prop where
 slots : SlotsAt W sv x.slots
 cells : ∀ (j : Nat) (u : Value), (acL x sv)[j]? = some u → W.cell? (p.add j) = some u
theorem AcIn.later {W X : World} {p : Addr} {x : Ac} {sv : Value} (h : AcIn W p x sv) (hb : Below W.heap.size W X) : AcIn X p x sv := ⟨h.slots.later hb, fun j u hj => cell_below hb _ _ (h.cells j u hj)⟩
theorem StAt.at {W : World} {a : Option Addr} {n cap : Nat} {l : List Ac} (h : StAt W (.slice a n cap) l) {i : Nat} {x : Ac} (hx : l[i]? = some x) : ∃ b sv, a = some b ∧ AcIn W (b.add (i * 27)) x sv := by
 obtain ⟨a', cap', h1, h2, h3, h4, h5⟩ := h
 injection h1 with e1 e2 e3
 subst e1
 obtain ⟨b, sv, e, hs, hc⟩ := h5 i x hx
 exact ⟨b, sv, e, hs, hc⟩
theorem StAt.in {W : World} {b : Addr} {n cap : Nat} {l : List Ac} (h : StAt W (.slice (some b) n cap) l) {i : Nat} {x : Ac} (hx : l[i]? = some x) : ∃ sv, AcIn W (b.add (i * 27)) x sv := by
 obtain ⟨b', sv, e, h⟩ := h.at hx
 injection e with e
 subst e
 exact ⟨sv, h⟩
theorem AcIn.load {W : World} {p : Addr} {x : Ac} {sv : Value} (h : AcIn W p x sv) : (loadVar 31 p).run Tryz.prog W = .ok (.agg (acC x sv)) W :=
 run_loadVar_at W p _ (acL x sv) _ h.cells Tryz.underlying31 rfl (by rw [acL_len]; exact infoAc)
theorem AcIn.loadAd {W : World} {p : Addr} {x : Ac} {sv : Value} (h : AcIn W p x sv) : (loadVar 25 p).run Tryz.prog W = .ok (.agg (adC x.at_)) W :=
 run_loadVar_at W p _ (adL x.at_) _ (fun j v hj => h.cells j v (by
  have hj20 : j < 20 := by
   have := (List.getElem?_eq_some_iff.1 hj).1
   rwa [adL_len] at this
  rw [acL_at x sv j hj20, ← hj, adL_at _ j hj20])) Tryz.underlying25 rfl (by rw [adL_len]; exact infoAd)
def Ups (l : List Ac) : Prop := l.Pairwise (fun x y => x.at_ < y.at_)
noncomputable def upsB (l : List Ac) : Bool := @decide (Ups l) (Classical.propDecidable _)
theorem upsB_iff (l : List Ac) : upsB l = true ↔ Ups l := by unfold upsB; exact @decide_eq_true_iff _ (Classical.propDecidable _)
theorem upsB_false {l : List Ac} (h : ¬ Ups l) : upsB l = false := by
 rcases hb : upsB l with _ | _
 ·rfl
 ·exact absurd ((upsB_iff l).1 hb) h
theorem ups_at {l : List Ac} : Ups l ↔ ∀ (j : Nat) (x y : Ac), l[j]? = some x → l[j + 1]? = some y → x.at_ < y.at_ := by
 constructor
 ·intro h j x y hx hy
  have := List.pairwise_iff_getElem.1 h j (j + 1) (List.getElem?_eq_some_iff.1 hx).1 (List.getElem?_eq_some_iff.1 hy).1 (by omega)
  rw [(List.getElem?_eq_some_iff.1 hx).2, (List.getElem?_eq_some_iff.1 hy).2] at this
  exact this
 ·intro h
  have key : ∀ (d i : Nat) (x y : Ac), l[i]? = some x → l[i + d + 1]? = some y → x.at_ < y.at_ := by
   intro d
   induction d with
   | zero => intro i x y hx hy; exact h i x y hx hy
   | succ d ih =>
    intro i x y hx hy
    obtain ⟨z, hz⟩ : ∃ z, l[i + d + 1]? = some z := ⟨_, List.getElem?_eq_getElem (by have := (List.getElem?_eq_some_iff.1 hy).1; omega)⟩
    exact Nat.lt_trans (ih i x z hx hz) (h (i + d + 1) z y hz (by rw [← hy]; congr 1))
  refine List.pairwise_iff_getElem.2 (fun i j hi hj hij => ?_)
  have := key (j - i - 1) i l[i] l[j] (List.getElem?_eq_getElem hi) (by rw [show i + (j - i - 1) + 1 = j by omega]; exact List.getElem?_eq_getElem hj)
  exact this
theorem acmp_ge (a b : Nat) : 0 ≤ acmp a b ↔ b ≤ a := by
 unfold acmp
 split
 ·exact ⟨fun h => absurd h (by decide), fun h => by omega⟩
 ·split
  ·exact ⟨fun _ => by omega, fun _ => by decide⟩
  ·exact ⟨fun _ => by omega, fun _ => by decide⟩
end
section
open Go Go.RowKit
attribute [local go_sem] Oper.semAt_some Grows wide_fn
theorem ups_any (W : World) (sv : Value) (l : List Ac) (hs : StAt W sv l) :
  Calls Tryz.prog 29 #[sv] W fun e w' => e = .returned (.bool (upsB l)) ∧ Below W.heap.size W w' := by
 have hmx : Tryz.prog.follows .mixedOrders = true := by kernel_rfl
 obtain ⟨a, cap, rfl, hnc, hcm⟩ := hs.shape
 have HS := hid hs
 obtain ⟨n, hn⟩ : ∃ n, l.length = n := ⟨_, rfl⟩
 rw [hn] at HS hnc ⊢
 have HN := hid hn
 have hlc := hid (Nat.le_trans hnc hcm)
 clear hs hnc hcm hn
 have hfin := hid (show ∀ X v, Below W.heap.size W X → upsB l = v → (Ending.returned (.bool v) = .returned (.bool (upsB l)) ∧ Below W.heap.size W X) from fun X v hX h => ⟨by rw [h], hX⟩)
 obtain ⟨Post, hPost⟩ : ∃ Post : Ending → World → Prop, (fun (e : Ending) (w' : World) => e = .returned (.bool (upsB l)) ∧ Below W.heap.size W w') = Post := ⟨_, rfl⟩
 replace hfin := hid (show ∀ X v, Below W.heap.size W X → upsB l = v → Post (.returned (.bool v)) X by rw [← hPost]; exact hfin.out)
 rw [hPost]
 clear hPost
 go_enter Tryz.func29, Tryz.ntmps29
 go_wp2_with fail
 go_loopw [3] (fun i wr => ∃ k : Nat, 1 ≤ k ∧ (k ≤ n ∨ k = 1) ∧ i = .int .i64 (k : Int) ∧ (∀ (j : Nat) (x y : Ac), j + 1 < k → l[j]? = some x → l[j + 1]? = some y → x.at_ < y.at_) ∧ Below W.heap.size W wr) (fun i _ => n - (intOf i).toNat)
 case atStart => exact ⟨1, by omega, .inr rfl, rfl, fun j x y h => absurd h (by omega), Below.refl _ _⟩
 case round =>
  obtain ⟨k, hk1, hk, rfl, hlt, hq⟩ := hrel
  have HLT := hid hlt
  have HQ := hid hq
  clear hlt hq
  by_cases hkn : k < n
  ·have hknI : (k : Int) < (n : Int) := by omega
   have hk0 : (0 : Int) ≤ (k : Int) := by omega
   have hkb : (k : Int) ≤ 9223372036854775806 := by have := hlc.out; omega
   obtain ⟨m, hm⟩ : ∃ m, k - 1 = m := ⟨_, rfl⟩
   have hm1 : (k : Int) - 1 = (m : Int) := by omega
   have hm2 : (m : Int) < (n : Int) := by omega
   obtain ⟨x, hx⟩ : ∃ x, l[m]? = some x := ⟨_, List.getElem?_eq_getElem (by have := HN.out; omega)⟩
   obtain ⟨y, hy⟩ : ∃ y, l[k]? = some y := ⟨_, List.getElem?_eq_getElem (by have := HN.out; omega)⟩
   obtain ⟨b, sx, rfl, ax⟩ := (HS.out.later HQ.out).at hx
   obtain ⟨sy, ay⟩ := (HS.out.later HQ.out).in hy
   have LX := hid (show ∀ z : World, Grows wr z → (loadVar 31 (b.add (m * 27))).run Tryz.prog z = .ok (.agg (acC x sx)) z from fun z hz => by obtain ⟨q, rfl⟩ := hz; exact (ax.later q.below).load)
   have LY := hid (show ∀ z : World, Grows wr z → (loadVar 25 (b.add (k * 27))).run Tryz.prog z = .ok (.agg (adC y.at_)) z from fun z hz => by obtain ⟨q, rfl⟩ := hz; exact (ay.later q.below).loadAd)
   have K3 := hid (fun z : Ext wr => Ext.at (order_any z.w x sx (HS.out.ok hx) y.at_ (HS.out.ok hy).at_))
   have hcge := hid (acmp_ge x.at_ y.at_)
   generalize acmp x.at_ y.at_ = c at *
   generalize acC x sx = cx at *
   generalize adC y.at_ = cy at *
   have HX := hid (And.intro hx hy)
   have HM := hid hm
   have HK := hid (And.intro hk1 hkn)
   clear hx hy hm hk1 hk hkn ax ay
   by_cases hc0 : 0 ≤ c
   ·go_wp2_with fail
    refine wp_region_quietL (C := Grows wr) hmx (by kernel_rfl) (grows_refl wr) ?_
    repeat (first | (with_reducible refine wpQuiet_load rfl 31 _ rfl _ rfl _ LX.out ?_; simp only [Act.put, sT, sS, sZ]) | (with_reducible refine wpQuiet_load rfl 25 _ rfl _ rfl _ LY.out ?_; simp only [Act.put, sT, sS, sZ]) | (go_big_quiet_step (first | (with_reducible exact K3.out _))))
    refine wpQuiet_nil ?_
    rintro _ ⟨z, rfl⟩
    have hno := hid (show upsB l = false from upsB_false (fun hr => by
     have h1 := ups_at.1 hr m x y HX.out.1 (by rw [show m + 1 = k by have := HM.out; have := HK.out; omega]; exact HX.out.2)
     have := hcge.out.1 hc0
     omega))
    have HE := hid (HQ.out.trans (z.below.mono HQ.out.size))
    clear LX LY K3
    go_wp2_with fail
    exact hfin.out _ _ HE.out hno.out
   ·go_wp2_with fail
    refine wp_region_quietL (C := Grows wr) hmx (by kernel_rfl) (grows_refl wr) ?_
    repeat (first | (with_reducible refine wpQuiet_load rfl 31 _ rfl _ rfl _ LX.out ?_; simp only [Act.put, sT, sS, sZ]) | (with_reducible refine wpQuiet_load rfl 25 _ rfl _ rfl _ LY.out ?_; simp only [Act.put, sT, sS, sZ]) | (go_big_quiet_step (first | (with_reducible exact K3.out _))))
    refine wpQuiet_nil ?_
    rintro _ ⟨z, rfl⟩
    have HE := hid (HQ.out.trans (z.below.mono HQ.out.size))
    have hlt := hid (show x.at_ < y.at_ from Nat.lt_of_not_le (fun h => by have := hcge.out.2 h; omega))
    clear LX LY K3
    go_wp2_with fail
    go_roundw
    case rel =>
     refine ⟨k + 1, by omega, .inl (by have := HK.out; omega), by simp, fun j x' y' hj h1 h2 => ?_, HE.out⟩
     by_cases hjk : j + 1 < k
     ·exact HLT.out j x' y' hjk h1 h2
     ·have hjk' : j = m := by have := HM.out; have := HK.out; omega
      subst hjk'
      rw [HX.out.1] at h1
      rw [show j + 1 = k by have := HM.out; have := HK.out; omega, HX.out.2] at h2
      injection h1 with h1
      injection h2 with h2
      subst h1 h2
      exact hlt.out
    case measure => have := HK.out; simp [intOf]; omega
  ·have hknI : ¬ (k : Int) < (n : Int) := by omega
   have hyes := hid (show upsB l = true from (upsB_iff l).2 (ups_at.2 (fun j x y hx hy => HLT.out j x y (by
    have := (List.getElem?_eq_some_iff.1 hy).1
    have := HN.out
    omega) hx hy)))
   clear hk hkn hk1
   go_wp2_with fail
   exact hfin.out _ _ HQ.out hyes.out
noncomputable def strayB (x : Ac) : Bool := emptyB x || !mayB x
def HasS (l : List Ac) : Prop := ∃ x ∈ l, strayB x = true
noncomputable def rightS (l : List Ac) : Bool := decide (l.length ≤ 200) && (upsB l && l.all (fun x => !strayB x))
theorem index_ac (W : World) (sv : Value) (l : List Ac) (hs : StAt W sv l) :
  Calls Tryz.prog 55 #[sv, .func (.func 31) #[] #[]] W fun e w' => ∃ r : Int, e = .returned (.int .i64 r) ∧ (0 ≤ r ↔ HasS l) ∧ Below W.heap.size W w' := by
 obtain ⟨a, cap, rfl, hnc, hcm⟩ := hs.shape
 have HS := hid hs
 obtain ⟨n, hn⟩ : ∃ n, l.length = n := ⟨_, rfl⟩
 rw [hn] at HS hnc ⊢
 have HN := hid hn
 have hlc := hid (Nat.le_trans hnc hcm)
 clear hs hnc hcm hn
 go_enter Tryz.func55, Tryz.ntmps55
 go_wp2_with fail
 go_loopw [8] (fun i wr => ∃ k : Nat, k ≤ n ∧ i = .int .i64 (k : Int) ∧ (∀ (j : Nat) (x : Ac), j < k → l[j]? = some x → strayB x = false) ∧ Below W.heap.size W wr) (fun i _ => n - (intOf i).toNat)
 case atStart => exact ⟨0, by omega, rfl, fun j x h => absurd h (by omega), Below.refl _ _⟩
 case round =>
  obtain ⟨k, hk, rfl, hlt, hq⟩ := hrel
  have HLT := hid hlt
  have HQ := hid hq
  clear hlt hq
  by_cases hkn : k < n
  ·have hknI : (k : Int) < (n : Int) := by omega
   have hk0 : (0 : Int) ≤ (k : Int) := by omega
   have hkb : (k : Int) ≤ 9223372036854775806 := by have := hlc.out; omega
   obtain ⟨x, hx⟩ : ∃ x, l[k]? = some x := ⟨_, List.getElem?_eq_getElem (by have := HN.out; omega)⟩
   obtain ⟨b, sx, rfl, ax⟩ := (HS.out.later HQ.out).at hx
   have hl := ax.load
   have HV := hid (stray_any wr x sx (HS.out.ok hx) ax.slots)
   have HSX := hid (show strayB x = (emptyB x || !mayB x) from rfl)
   have HK := hid hkn
   have HX := hid hx
   clear hkn hx hk ax
   rw [← HSX.out] at HV
   generalize acC x sx = cx at *
   obtain ⟨sb, hsb⟩ : ∃ sb, strayB x = sb := ⟨_, rfl⟩
   rw [hsb] at HV
   have HB := hid hsb
   clear hsb
   go_wp2_with (refine wpList_load_known rfl _ _ rfl _ rfl _ hl ?_)
   refine HV.out.mono ?_
   rintro _ W2 ⟨rfl, q2⟩
   have HE := hid (HQ.out.trans (q2.mono HQ.out.size))
   clear q2 HV hl
   cases sb
   ·go_wp2_with fail
    go_roundw
    case rel => exact ⟨k + 1, by have := HK.out; omega, by simp, fun j y hj hy => by
     by_cases hjk : j < k
     ·exact HLT.out j y hjk hy
     ·obtain rfl : j = k := by omega
      have e := hy.symm.trans HX.out
      injection e with e
      rw [e]
      exact HB.out, HE.out⟩
    case measure => have := HK.out; simp [intOf]; omega
   ·have HR := hid (show 0 ≤ (k : Int) ↔ HasS l from ⟨fun _ => ⟨x, List.mem_of_getElem? HX.out, HB.out⟩, fun _ => hk0⟩)
    go_wp2_with fail
    go_ret
    exact ⟨_, rfl, HR.out, HE.out⟩
  ·obtain rfl : k = n := by omega
   clear hkn
   have hno := hid (show 0 ≤ (-1 : Int) ↔ HasS l from ⟨fun h => absurd h (by omega), fun ⟨y, hy, h⟩ => by
    obtain ⟨j, hj⟩ := List.mem_iff_getElem?.1 hy
    have hjl := (List.getElem?_eq_some_iff.1 hj).1
    have := HLT.out j y (by have := HN.out; omega) hj
    rw [h] at this
    exact absurd this (by decide)⟩)
   go_wp2_with fail
   go_ret
   exact ⟨_, rfl, hno.out, HQ.out⟩
theorem contains_ac (W : World) (sv : Value) (l : List Ac) (hs : StAt W sv l) :
  Calls Tryz.prog 30 #[sv, .func (.func 31) #[] #[]] W fun e w' => e = .returned (.bool (!l.all (fun x => !strayB x))) ∧ Below W.heap.size W w' := by
 have H := hid (index_ac W sv l hs)
 clear hs
 go_enter Tryz.func30, Tryz.ntmps30
 go_wp2_with fail
 refine H.out.mono ?_
 rintro _ W1 ⟨r, rfl, hr, q⟩
 have HE := hid (show (!l.all (fun x => !strayB x)) = decide (0 ≤ r) by
  rw [Bool.eq_iff_iff, decide_eq_true_eq, hr]
  unfold HasS
  simp)
 have Q := hid q
 clear hr q H
 go_wp2_with fail
 go_ret
 exact ⟨by rw [HE.out]; rfl, Q.out⟩
theorem right_st (W : World) (sv : Value) (l : List Ac) (hs : StAt W sv l) :
  Calls Tryz.prog 10 #[sv] W fun e w' => e = .returned (.bool (rightS l)) ∧ Below W.heap.size W w' := by
 obtain ⟨a, cap, rfl, hnc, hcm⟩ := hs.shape
 have H1 := hid (ups_any W _ l hs)
 have H2 := hid (fun (W1 : World) (h : Below W.heap.size W W1) => contains_ac W1 _ l (hs.later h))
 have HR := hid (show rightS l = (decide (l.length ≤ 200) && (upsB l && l.all (fun x => !strayB x))) from rfl)
 generalize rightS l = rb at *
 generalize upsB l = pb at *
 generalize l.all (fun x => !strayB x) = ab at *
 generalize l.length = n at *
 clear hs
 have hn0 : (n : Int) ≤ 9223372036854775807 := by omega
 clear hnc hcm
 by_cases h2 : n ≤ 200
 ·have h2I : (n : Int) ≤ 200 := by omega
  rw [decide_eq_true h2] at HR
  clear h2
  go_enter Tryz.func10, Tryz.ntmps10
  go_wp2_with fail
  refine H1.out.mono ?_
  rintro _ W1 ⟨rfl, q1⟩
  have H3 := hid (H2.out W1 q1)
  have Q := hid q1
  clear q1 H1 H2
  cases pb
  ·go_wp2_with fail
   go_ret
   exact ⟨by rw [HR.out]; rfl, Q.out⟩
  ·go_wp2_with fail
   refine H3.out.mono ?_
   rintro _ W2 ⟨rfl, q2⟩
   have Q2 := hid (Q.out.trans (q2.mono Q.out.size))
   clear q2 H3 Q
   go_wp2_with fail
   go_ret
   exact ⟨by rw [HR.out]; cases ab <;> rfl, Q2.out⟩
 ·have h2I : ¬ (n : Int) ≤ 200 := by omega
  rw [decide_eq_false h2] at HR
  clear h2 H1 H2
  go_enter Tryz.func10, Tryz.ntmps10
  go_wp2_with fail
  go_ret
  exact ⟨by rw [HR.out]; rfl, Below.refl _ _⟩
end
end Go.Proofs.YtkicmbdjihjgfaaGreatDoor
