/- Addresses: their bytes, their order, '=='. Conditions: none. -/
import Derived.Test.YtbkgipggblphlaaLawK
import Derived.Lib.BytesEntry
import Derived.Lib.Bytealg
import Derived.Laws.StructEq
import Derived.Laws.Cover2
import Derived.WalkKit
import Derived.Deep.Quiet
import Derived.BigQuiet
import Derived.Deep.MidRow
import Derived.Deep.WholeRow
namespace Go.Proofs.Ytbkgipggblphlaa
open Go Go.RowKit
attribute [local go_sem] Oper.semAt_some Grows wide_fn

/-- Byte i of an address that is a number, the highest one first. -/
def adB (n i : Nat) : Nat := n / 256 ^ (19 - i) % 256
def adL (n : Nat) : List Value := (List.range 20).map fun i => .int .u8 ((adB n i : Nat) : Int)
theorem adL_len (n : Nat) : (adL n).length = 20 := by simp [adL]
/-- The last k bytes of a number, the highest one first. -/
def lowB : Nat → Nat → List UInt8
  | 0, _ => []
  | k + 1, n => UInt8.ofNat (n / 256 ^ k % 256) :: lowB k n
/-- The order of numbers, as Compare tells it. -/
def acmp (a b : Nat) : Int := if a < b then -1 else if b < a then 1 else 0
theorem byte_lt (a b : Nat) (ha : a < 256) (hb : b < 256) : (UInt8.ofNat a < UInt8.ofNat b) ↔ a < b := by
  rw [UInt8.lt_iff_toNat_lt, UInt8.toNat_ofNat', UInt8.toNat_ofNat', Nat.mod_eq_of_lt ha, Nat.mod_eq_of_lt hb]
theorem split_at (k n : Nat) : n % 256 ^ (k + 1) = n / 256 ^ k % 256 * 256 ^ k + n % 256 ^ k := by
  rw [Nat.pow_succ, Nat.mod_mul, Nat.mul_comm (256 ^ k), Nat.add_comm]
theorem cmp_low : ∀ (k a b : Nat), Lib.compareBytes (lowB k a) (lowB k b) = acmp (a % 256 ^ k) (b % 256 ^ k)
  | 0, a, b => by simp [lowB, Lib.compareBytes, acmp, Nat.mod_one]
  | k + 1, a, b => by
    have ih := cmp_low k a b
    have ha : a / 256 ^ k % 256 < 256 := Nat.mod_lt _ (by decide)
    have hb : b / 256 ^ k % 256 < 256 := Nat.mod_lt _ (by decide)
    have h1 := byte_lt _ _ ha hb
    have h2 := byte_lt _ _ hb ha
    rw [lowB, lowB, Lib.compareBytes, ih, split_at, split_at]
    have hp : 0 < 256 ^ k := Nat.pow_pos (by decide)
    have la : a % 256 ^ k < 256 ^ k := Nat.mod_lt _ hp
    have lb : b % 256 ^ k < 256 ^ k := Nat.mod_lt _ hp
    generalize a / 256 ^ k % 256 = x at *
    generalize b / 256 ^ k % 256 = y at *
    generalize a % 256 ^ k = p at *
    generalize b % 256 ^ k = q at *
    generalize 256 ^ k = r at *
    unfold acmp
    by_cases hxy : x < y
    · have : (x + 1) * r ≤ y * r := Nat.mul_le_mul_right r hxy
      rw [Nat.add_mul] at this
      rw [if_pos (h1.2 hxy), if_pos (by omega)]
    · by_cases hyx : y < x
      · have : (y + 1) * r ≤ x * r := Nat.mul_le_mul_right r hyx
        rw [Nat.add_mul] at this
        rw [if_neg (fun h => hxy (h1.1 h)), if_pos (h2.2 hyx), if_neg (by omega), if_pos (by omega)]
      · obtain rfl : x = y := by omega
        rw [if_neg (fun h => hxy (h1.1 h)), if_neg (fun h => hyx (h2.1 h))]
        by_cases hpq : p < q
        · rw [if_pos hpq, if_pos (by omega)]
        · by_cases hqp : q < p
          · rw [if_neg hpq, if_pos hqp, if_neg (by omega), if_pos (by omega)]
          · rw [if_neg hpq, if_neg hqp, if_neg (by omega), if_neg (by omega)]
theorem lowB_len : ∀ (k n : Nat), (lowB k n).length = k
  | 0, _ => rfl
  | k + 1, n => by rw [lowB, List.length_cons, lowB_len k n]
theorem lowB_at : ∀ (k n j : Nat), j < k → (lowB k n)[j]? = some (UInt8.ofNat (n / 256 ^ (k - 1 - j) % 256))
  | 0, _, _, h => by omega
  | k + 1, n, 0, _ => by rw [lowB]; simp
  | k + 1, n, j + 1, h => by
    rw [lowB, List.getElem?_cons_succ, lowB_at k n j (by omega)]
    rw [show k - 1 - j = k + 1 - 1 - (j + 1) by omega]
/-- An address' bytes at a place. -/
def AdAt (W : World) (p : Addr) (n : Nat) : Prop := ∀ j : Nat, j < 20 → W.cell? (p.add j) = some (.int .u8 ((adB n j : Nat) : Int))
theorem AdAt.bytes {W : World} {p : Addr} {n : Nat} (h : AdAt W p n) : ∀ (j : Nat) (x : UInt8), (lowB 20 n)[j]? = some x → W.cell? (p.add j) = some (.int .u8 x.toNat) := fun j x hx => by
  have hj : j < 20 := by
    have := (List.getElem?_eq_some_iff.1 hx).1
    rwa [lowB_len] at this
  rw [lowB_at 20 n j hj] at hx
  injection hx with hx
  subst hx
  rw [h j hj]
  unfold adB
  rw [UInt8.toNat_ofNat', Nat.mod_eq_of_lt (Nat.mod_lt _ (by decide))]
theorem run_adBytes {W : World} {P : Program} {p : Addr} {a : Nat} (ha : AdAt W p a) : (Extern.Bytes.loadBytes p 20 .empty).run P W = .ok ⟨(lowB 20 a).toArray⟩ W := by
  have h := Lib.run_loadBytesX (P := P) W ((lowB 20 a).map fun b => (b.toNat : Int)) p .empty (fun j x hx => by
    rw [List.getElem?_map] at hx
    cases hb : (lowB 20 a)[j]? with
    | none => rw [hb] at hx; cases hx
    | some b =>
      rw [hb] at hx
      injection hx with hx
      subst hx
      exact ha.bytes j b hb)
  rw [List.length_map, lowB_len] at h
  rw [h]
  have e : Lib.bytesOf ((lowB 20 a).map fun b => (b.toNat : Int)) = lowB 20 a := by
    simp [Lib.bytesOf, Function.comp_def]
  rw [e]
  simp
theorem run_compare {W : World} {P : Program} {p q : Addr} {a b c d : Nat} (ha : AdAt W p a) (hb : AdAt W q b) (la : a < 256 ^ 20) (lb : b < 256 ^ 20) : (Extern.BytealgCompare.compare #[.slice (some p) 20 c, .slice (some q) 20 d]).run P W = .ok (.int .i64 (acmp a b)) W := by
  have h1 := run_adBytes (P := P) ha
  have h2 := run_adBytes (P := P) hb
  change Sem.run P (do pure (goInt (Extern.BytealgCompare.cmp (← Extern.Bytes.bytesOf (.slice (some p) 20 c)) (← Extern.Bytes.bytesOf (.slice (some q) 20 d))))) W = _
  simp only [Extern.Bytes.bytesOf, Sem.run_bind, Sem.run_pure, Result.andThen, h1, h2]
  rw [Lib.cmp_eq]
  have key := cmp_low 20 a b
  rw [Nat.mod_eq_of_lt la, Nat.mod_eq_of_lt lb] at key
  simp only [key]
  rfl
def adC (n : Nat) : Array Value := (adL n).toArray
theorem adC_size (n : Nat) : (adC n).size = 20 := by simp [adC, adL_len]
theorem adL_at (n j : Nat) (h : j < 20) : (adL n)[j]? = some (.int .u8 ((adB n j : Nat) : Int)) := by simp [adL, h]
theorem add_lit (B o j : Nat) : (⟨B, o, none⟩ : Addr).add j = ⟨B, o + j, none⟩ := by unfold Addr.add; split <;> simp_all
theorem Has.ad {W : World} {B : Nat} {t : TypeId} {n : Nat} (h : Has W B t (adC n)) : AdAt W ⟨B, 0, none⟩ n := fun j hj => by
  rw [add_lit, Nat.zero_add]
  exact h.cell j _ (by simp [adC, adL_at n j hj])
set_option maxRecDepth 100000 in
set_option maxHeartbeats 4000000 in
theorem compare_any (W : World) (p q : Addr) (a b c d : Nat) (ha : AdAt W p a) (hb : AdAt W q b) (la : a < 256 ^ 20) (lb : b < 256 ^ 20) :
    Calls Try.prog 24 #[.slice (some p) 20 c, .slice (some q) 20 d] W fun e w' => e = .returned (.int .i64 (acmp a b)) ∧ W = w' := by
  have HR := Lib.hid (run_compare (P := Try.prog) (c := c) (d := d) ha hb la lb)
  clear ha hb la lb
  generalize acmp a b = r at *
  go_enter Try.func24, Try.ntmps24
  go_wp2
  rw [run_callFunc_extern Try.func43 (by kernel_rfl) (by kernel_rfl) (by kernel_rfl) (e := Extern.BytealgCompare.compare) (by kernel_rfl), HR.out]
  simp only [Result.andThen]
  rw [Oper.upon_value]
  go_wp2
  go_ret
  exact ⟨rfl, rfl⟩
theorem acmp_zero (a b : Nat) : acmp a b = 0 ↔ a = b := by
  unfold acmp
  split
  · constructor <;> intro h <;> omega
  · split
    · constructor <;> intro h <;> omega
    · constructor <;> intro h <;> omega
def eqA (a b : Nat) : Bool := (List.range 20).all fun j => adB a j == adB b j
theorem eqA_iff {a b : Nat} (ha : a < 256 ^ 20) (hb : b < 256 ^ 20) : eqA a b = decide (a = b) := by
  rw [Bool.eq_iff_iff, decide_eq_true_eq]
  unfold eqA
  rw [List.all_eq_true]
  constructor
  · intro h
    have hl : lowB 20 a = lowB 20 b := by
      apply List.ext_getElem?
      intro j
      by_cases hj : j < 20
      · rw [lowB_at 20 a j hj, lowB_at 20 b j hj]
        have e := h j (List.mem_range.2 hj)
        have e' : adB a j = adB b j := by simpa using e
        unfold adB at e'
        rw [show 20 - 1 - j = 19 - j by omega, e']
      · rw [List.getElem?_eq_none (by rw [lowB_len]; omega), List.getElem?_eq_none (by rw [lowB_len]; omega)]
    have k1 := cmp_low 20 a b
    have k2 := cmp_low 20 b b
    rw [hl, k2] at k1
    rw [Nat.mod_eq_of_lt ha, Nat.mod_eq_of_lt hb] at k1
    rw [(acmp_zero b b).2 rfl] at k1
    exact (acmp_zero a b).1 k1.symm
  · rintro rfl j _
    exact beq_self_eq_true _
theorem adC_get (n i : Nat) (h : i < 20) : (adC n)[i]? = some (.int .u8 ((adB n i : Nat) : Int)) := by simp [adC, adL_at n i h]
theorem part20 (n : Nat) (i : Nat) (hi : i < 20) (w : World) : (part 5 (adC n) i).run Try.prog w = .ok (.int .u8 ((adB n i : Nat) : Int)) w := by
  have a3 := Try.isAgg5
  have hg := adC_get n i hi
  unfold part
  simp [go_sem, a3, hg]
theorem equal_u8 (d : Nat) (x y : Int) (w : World) : (Op.equalIn (d + 1) 5 (.int .u8 x) (.int .u8 y)).run Try.prog w = .ok (x == y) w := by
  rw [Op.equalIn]
  simp only [Sem.run_bind, run_underlying Try.underlying5, Result.andThen_ok]
  simp [go_sem]
theorem eq_loop20 (A B : Nat) (w : World) : ∀ l : List Nat, (∀ i, i ∈ l → i < 20) →
    (forIn (m := Sem) l ((none : Option Bool), ()) fun i _ => do
      let x ← part 5 (adC A) i
      let y ← part 5 (adC B) i
      let r ← Op.equalIn 9999 5 x y
      if (!r) = true then pure (ForInStep.done (some false, ())) else pure (ForInStep.yield (none, ()))).run Try.prog w = .ok (if l.all (fun j => adB A j == adB B j) = true then (none, ()) else (some false, ())) w
  | [], _ => by simp [go_sem]
  | i :: l, hl => by
    have hi := hl i (by simp)
    have ih := eq_loop20 A B w l (fun j hj => hl j (by simp [hj]))
    rw [List.forIn_cons]
    simp only [Sem.run_bind, part20 A i hi, part20 B i hi, equal_u8 9998, Result.andThen_ok]
    by_cases h : adB A i = adB B i
    · have hb : (((adB A i : Nat) : Int) == ((adB B i : Nat) : Int)) = true := by rw [h]; exact beq_self_eq_true _
      have hn : (adB A i == adB B i) = true := by rw [h]; exact beq_self_eq_true _
      simp only [hb, Bool.not_true, Bool.false_eq_true, if_false, Sem.run_pure, Result.andThen_ok, List.all_cons, hn, Bool.true_and]
      exact ih
    · have hb : (((adB A i : Nat) : Int) == ((adB B i : Nat) : Int)) = false := beq_eq_false_iff_ne.2 (by omega)
      have hn : (adB A i == adB B i) = false := beq_eq_false_iff_ne.2 h
      simp only [hb, Bool.not_false, if_true, Sem.run_pure, Result.andThen_ok, List.all_cons, hn, Bool.false_and, Bool.false_eq_true, if_false]
theorem eq20 (a b : Nat) (ha : a < 256 ^ 20) (hb : b < 256 ^ 20) (w : World) : (Op.equalIn 10000 26 (.agg (adC a)) (.agg (adC b))).run Try.prog w = .ok (decide (a = b)) w := by
  have z3 := Try.sizeOf5
  rw [← eqA_iff ha hb]
  rw [show (10000 : Nat) = 9999 + 1 from rfl, Op.equalIn]
  simp only [Sem.run_bind, run_underlying Try.underlying26, Result.andThen_ok, z3]
  simp only [Std.Legacy.Range.forIn_eq_forIn_range', Std.Legacy.Range.size, Nat.sub_zero, Nat.add_sub_cancel, Nat.div_one, Nat.mul_one]
  rw [eq_loop20 a b w (List.range' 0 20) (fun i hi => by rw [List.mem_range'_1] at hi; omega)]
  rw [show List.range' 0 20 = List.range 20 from rfl]
  show Result.andThen (.ok (if eqA a b = true then (none, ()) else (some false, ())) w) _ = _
  cases h : eqA a b <;> simp [go_sem]
/-- A load that is known, where it is wanted. -/
theorem wpList_load_known {P : Program} {ops : Array Oper} {rest : List Oper} {o : Oper} {a : Act} {w : World} {Q : Exit → Act → World → Prop} (hw : Region.wanted o (yielded ops a.tmps) = true) (ty : TypeId) (x : Operand) (ho : o.op = .load ty x) (p : Addr) (hx : a.eval x = .pointer (some p)) (v : Value) (hr : (loadVar ty p).run P w = .ok v w)
    (h : wpList P ops Q rest (a.put o.dst v) w) : wpList P ops Q (o :: rest) a w :=
  wpList_step fun _ hK => by
    rw [if_pos hw]
    unfold Oper.wp execOp
    simp only [ho, hx, Instr.loadAt, Instr.sureAddr, Sem.run_bind, Sem.run_pure, Result.andThen_ok, hr]
    exact hK _ _ h
/-- A variable of many cells is read, wherever it lies. -/
theorem run_loadVar_at {P : Program} (w : World) (a : Addr) (ty : TypeId) (cs : List Value) (d : TypeDesc) (hc : ∀ (j : Nat) (v : Value), cs[j]? = some v → w.cell? (a.add j) = some v)
    (hu : P.underlying ty = some d) (hd : d.isRow = true) (hi : (P.info? ty).map (·.size) = some cs.length) :
    (loadVar ty a).run P w = .ok (.agg cs.toArray) w := by
  have hl : (loadCells a cs.length).run P w = .ok cs.toArray w := run_loadCells_list (P := P) w a cs hc
  cases hq : P.info? ty with
  | none => simp [hq] at hi
  | some i =>
    have hs : i.size = cs.length := by simpa [hq] using hi
    have hagg : (isAgg ty).run P w = .ok true w := by
      unfold isAgg
      rw [Sem.run_bind, run_underlying hu w]
      cases d <;> simp_all
    simp [loadVar, Sem.run_bind, hagg, sizeOf, typeInfo, hq, hs, hl]
theorem infoAd : (Try.prog.info? 26).map (·.size) = some 20 := by kernel_rfl
/-- A load that is known in every world of the class. -/
theorem wpQuiet_load {P : Program} {ops : Array Oper} {C : World → Prop} {rest : List Oper} {o : Oper} {a : Act} {Q : Act → Prop} (hw : Region.wanted o (yielded ops a.tmps) = true) (ty : TypeId) (x : Operand) (ho : o.op = .load ty x) (p : Addr) (hx : a.eval x = .pointer (some p)) (v : Value) (hr : ∀ w, C w → (loadVar ty p).run P w = .ok v w)
    (h : wpQuiet P ops C Q rest (a.put o.dst v)) : wpQuiet P ops C Q (o :: rest) a :=
  BigFrame.wpQuiet_want hw fun K hK => ⟨v, fun w hc => by
    unfold Oper.quietAt execOp
    simp only [ho, hx, Instr.loadAt, Instr.sureAddr, Sem.run_bind, Sem.run_pure, Result.andThen_ok, hr w hc]
    exact ⟨rfl, rfl⟩, hK _ h⟩
end Go.Proofs.Ytbkgipggblphlaa
