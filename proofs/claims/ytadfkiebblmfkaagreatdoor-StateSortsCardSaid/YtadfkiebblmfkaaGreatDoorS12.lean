import Derived.Test.YtadfkiebblmfkaaGreatDoorS11
import Derived.Deep.MidRow
import Derived.Deep.WholeRow
import Derived.Lib.BytesEntry
import Derived.Lib.Bytealg
import Derived.Test.YtadfkiebblmfkaaGreatDoorS09
/- Accounts as plain data, and how they lie in memory. Conditions: none. -/
namespace Go.Proofs.YtadfkiebblmfkaaGreatDoor
open Go Go.RowKit

/-- Byte i of an address that is a number, the highest one first. -/
def adB (n i : Nat) : Nat := n / 256 ^ (19 - i) % 256
def adL (n : Nat) : List Value := (List.range 20).map fun i => .int .u8 ((adB n i : Nat) : Int)
/-- An account. -/
structure Ac where
  at_ : Nat
  bal : Nat
  non : Int
  code : ByteArray
  slots : List Sl
/-- Its cells; sv: where its slots are. -/
def acL (x : Ac) (sv : Value) : List Value := adL x.at_ ++ [.int .u64 (lim x.bal 0), .int .u64 (lim x.bal 1), .int .u64 (lim x.bal 2), .int .u64 (lim x.bal 3), .int .i64 x.non, .string x.code, sv]
def acC (x : Ac) (sv : Value) : Array Value := (acL x sv).toArray
theorem adL_len (n : Nat) : (adL n).length = 20 := by simp [adL]
theorem acL_len (x : Ac) (sv : Value) : (acL x sv).length = 27 := by simp [acL, adL_len]
theorem acC_size (x : Ac) (sv : Value) : (acC x sv).size = 27 := by simp [acC, acL_len]
theorem acL_more (x : Ac) (sv : Value) (j : Nat) : (acL x sv)[20 + j]? = [.int .u64 (lim x.bal 0), .int .u64 (lim x.bal 1), .int .u64 (lim x.bal 2), .int .u64 (lim x.bal 3), .int .i64 x.non, .string x.code, sv][j]? := by
  unfold acL
  rw [List.getElem?_append_right (by rw [adL_len]; omega), adL_len, Nat.add_sub_cancel_left]
theorem acC_more (x : Ac) (sv : Value) (j : Nat) : (acC x sv)[20 + j]? = [.int .u64 (lim x.bal 0), .int .u64 (lim x.bal 1), .int .u64 (lim x.bal 2), .int .u64 (lim x.bal 3), .int .i64 x.non, .string x.code, sv][j]? := by
  rw [← acL_more x sv j]
  simp [acC]
theorem acL_at (x : Ac) (sv : Value) (j : Nat) (h : j < 20) : (acL x sv)[j]? = some (.int .u8 ((adB x.at_ j : Nat) : Int)) := by
  unfold acL
  rw [List.getElem?_append_left (by rw [adL_len]; exact h)]
  simp [adL, h]
theorem acL_one (x : Ac) (sv : Value) (hs : sv.oneCell' = true) : ∀ u ∈ acL x sv, u.oneCell' = true := fun u hu => by
  unfold acL adL at hu
  rcases List.mem_append.1 hu with h | h
  · obtain ⟨i, _, rfl⟩ := List.mem_map.1 h
    rfl
  · simp only [List.mem_cons, List.not_mem_nil, or_false] at h
    rcases h with rfl | rfl | rfl | rfl | rfl | rfl | rfl
    all_goals first | rfl | exact hs
/-- What an account may be made of. -/
structure AcOk (x : Ac) : Prop where
  at_ : x.at_ < 256 ^ 20
  bal : W256 x.bal
  non : I64 x.non
  code : x.code.size ≤ 140737488355328
theorem infoAc : (Tryz.prog.info? 31).map (·.size) = some 27 := by kernel_rfl
/-- The cells of an account's box, as a walk finds them. -/
theorem Has.acc {W : World} {B : Nat} {x : Ac} {sv : Value} (h : Has W B 31 (acC x sv)) : W.cell? ⟨B, 20, none⟩ = some (.int .u64 (lim x.bal 0)) ∧ W.cell? ⟨B, 21, none⟩ = some (.int .u64 (lim x.bal 1)) ∧ W.cell? ⟨B, 22, none⟩ = some (.int .u64 (lim x.bal 2)) ∧ W.cell? ⟨B, 23, none⟩ = some (.int .u64 (lim x.bal 3)) ∧
    W.cell? ⟨B, 24, none⟩ = some (.int .i64 x.non) ∧ W.cell? ⟨B, 25, none⟩ = some (.string x.code) ∧ W.cell? ⟨B, 26, none⟩ = some sv :=
  ⟨h.cell 20 _ (acC_more x sv 0), h.cell 21 _ (acC_more x sv 1), h.cell 22 _ (acC_more x sv 2), h.cell 23 _ (acC_more x sv 3), h.cell 24 _ (acC_more x sv 4), h.cell 25 _ (acC_more x sv 5), h.cell 26 _ (acC_more x sv 6)⟩
/-- The load of a whole account. -/
theorem Has.accLoad {W : World} {B : Nat} {x : Ac} {sv : Value} (h : Has W B 31 (acC x sv)) : (loadVar 31 ⟨B, 0, none⟩).run Tryz.prog W = .ok (.agg (acC x sv)) W :=
  run_loadVar_row _ _ _ _ _ (0, 0) _ h Tryz.underlying31 rfl (by rw [acC_size]; exact infoAc)
theorem Has.accLoadAt {W : World} {B : Nat} {x : Ac} {sv : Value} (h : Has W B 31 (acC x sv)) : (Instr.loadAt 31 (.pointer (some ⟨B, 0, none⟩))).run Tryz.prog W = .ok (.agg (acC x sv)) W := by
  simp only [Instr.loadAt, Instr.sureAddr, Sem.run_bind, Sem.run_pure, Result.andThen_ok, h.accLoad]
/-- A load that is known, where it is wanted. -/
theorem wpList_load_known {P : Program} {ops : Array Oper} {rest : List Oper} {o : Oper} {a : Act} {w : World} {Q : Exit → Act → World → Prop} (hw : Region.wanted o (yielded ops a.tmps) = true) (ty : TypeId) (x : Operand) (ho : o.op = .load ty x) (p : Addr) (hx : a.eval x = .pointer (some p)) (v : Value) (hr : (loadVar ty p).run P w = .ok v w)
    (h : wpList P ops Q rest (a.put o.dst v) w) : wpList P ops Q (o :: rest) a w :=
  wpList_step fun _ hK => by
    rw [if_pos hw]
    unfold Oper.wp execOp
    simp only [ho, hx, Instr.loadAt, Instr.sureAddr, Sem.run_bind, Sem.run_pure, Result.andThen_ok, hr]
    exact hK _ _ h
end Go.Proofs.YtadfkiebblmfkaaGreatDoor

/- Package state: the order of addresses. Conditions: none. -/
namespace Go.Proofs.YtadfkiebblmfkaaGreatDoor
open Go Go.RowKit
attribute [local go_sem] Oper.semAt_some Grows wide_fn

/-- The last k bytes of a number, the highest one first. -/
def lowB : Nat → Nat → List UInt8
  | 0, _ => []
  | k + 1, n => UInt8.ofNat (n / 256 ^ k % 256) :: lowB k n
/-- The order of numbers, as Compare tells it. -/
def acmp (a b : Nat) : Int := if a < b then -1 else if b < a then 1 else 0
theorem byte_lt (a b : Nat) (ha : a < 256) (hb : b < 256) : (UInt8.ofNat a < UInt8.ofNat b) ↔ a < b := by
  rw [UInt8.lt_iff_toNat_lt, UInt8.toNat_ofNat', UInt8.toNat_ofNat', Nat.mod_eq_of_lt ha, Nat.mod_eq_of_lt hb]
theorem split_at (k n : Nat) : n % 256 ^ (k + 1) = n / 256 ^ k % 256 * 256 ^ k + n % 256 ^ k := by
  rw [Nat.pow_succ, Nat.mod_mul, Nat.mul_comm (256 ^ k), Nat.add_comm]
theorem cmp_low : ∀ (k a b : Nat), Lib.compareBytes (lowB k a) (lowB k b) = acmp (a % 256 ^ k) (b % 256 ^ k)
  | 0, a, b => by simp [lowB, Lib.compareBytes, acmp, Nat.mod_one]
  | k + 1, a, b => by
    have ih := cmp_low k a b
    have ha : a / 256 ^ k % 256 < 256 := Nat.mod_lt _ (by decide)
    have hb : b / 256 ^ k % 256 < 256 := Nat.mod_lt _ (by decide)
    have h1 := byte_lt _ _ ha hb
    have h2 := byte_lt _ _ hb ha
    rw [lowB, lowB, Lib.compareBytes, ih, split_at, split_at]
    have hp : 0 < 256 ^ k := Nat.pow_pos (by decide)
    have la : a % 256 ^ k < 256 ^ k := Nat.mod_lt _ hp
    have lb : b % 256 ^ k < 256 ^ k := Nat.mod_lt _ hp
    generalize a / 256 ^ k % 256 = x at *
    generalize b / 256 ^ k % 256 = y at *
    generalize a % 256 ^ k = p at *
    generalize b % 256 ^ k = q at *
    generalize 256 ^ k = r at *
    unfold acmp
    by_cases hxy : x < y
    · have : (x + 1) * r ≤ y * r := Nat.mul_le_mul_right r hxy
      rw [Nat.add_mul] at this
      rw [if_pos (h1.2 hxy), if_pos (by omega)]
    · by_cases hyx : y < x
      · have : (y + 1) * r ≤ x * r := Nat.mul_le_mul_right r hyx
        rw [Nat.add_mul] at this
        rw [if_neg (fun h => hxy (h1.1 h)), if_pos (h2.2 hyx), if_neg (by omega), if_pos (by omega)]
      · obtain rfl : x = y := by omega
        rw [if_neg (fun h => hxy (h1.1 h)), if_neg (fun h => hyx (h2.1 h))]
        by_cases hpq : p < q
        · rw [if_pos hpq, if_pos (by omega)]
        · by_cases hqp : q < p
          · rw [if_neg hpq, if_pos hqp, if_neg (by omega), if_pos (by omega)]
          · rw [if_neg hpq, if_neg hqp, if_neg (by omega), if_neg (by omega)]
theorem lowB_len : ∀ (k n : Nat), (lowB k n).length = k
  | 0, _ => rfl
  | k + 1, n => by rw [lowB, List.length_cons, lowB_len k n]
theorem lowB_at : ∀ (k n j : Nat), j < k → (lowB k n)[j]? = some (UInt8.ofNat (n / 256 ^ (k - 1 - j) % 256))
  | 0, _, _, h => by omega
  | k + 1, n, 0, _ => by rw [lowB]; simp
  | k + 1, n, j + 1, h => by
    rw [lowB, List.getElem?_cons_succ, lowB_at k n j (by omega)]
    rw [show k - 1 - j = k + 1 - 1 - (j + 1) by omega]
/-- An address' bytes at a place. -/
def AdAt (W : World) (p : Addr) (n : Nat) : Prop := ∀ j : Nat, j < 20 → W.cell? (p.add j) = some (.int .u8 ((adB n j : Nat) : Int))
theorem AdAt.bytes {W : World} {p : Addr} {n : Nat} (h : AdAt W p n) : ∀ (j : Nat) (x : UInt8), (lowB 20 n)[j]? = some x → W.cell? (p.add j) = some (.int .u8 x.toNat) := fun j x hx => by
  have hj : j < 20 := by
    have := (List.getElem?_eq_some_iff.1 hx).1
    rwa [lowB_len] at this
  rw [lowB_at 20 n j hj] at hx
  injection hx with hx
  subst hx
  rw [h j hj]
  unfold adB
  rw [UInt8.toNat_ofNat', Nat.mod_eq_of_lt (Nat.mod_lt _ (by decide))]
theorem run_adBytes {W : World} {P : Program} {p : Addr} {a : Nat} (ha : AdAt W p a) : (Extern.Bytes.loadBytes p 20 .empty).run P W = .ok ⟨(lowB 20 a).toArray⟩ W := by
  have h := Lib.run_loadBytesX (P := P) W ((lowB 20 a).map fun b => (b.toNat : Int)) p .empty (fun j x hx => by
    rw [List.getElem?_map] at hx
    cases hb : (lowB 20 a)[j]? with
    | none => rw [hb] at hx; cases hx
    | some b =>
      rw [hb] at hx
      injection hx with hx
      subst hx
      exact ha.bytes j b hb)
  rw [List.length_map, lowB_len] at h
  rw [h]
  have e : Lib.bytesOf ((lowB 20 a).map fun b => (b.toNat : Int)) = lowB 20 a := by
    simp [Lib.bytesOf, Function.comp_def]
  rw [e]
  simp
theorem run_compare {W : World} {P : Program} {p q : Addr} {a b c d : Nat} (ha : AdAt W p a) (hb : AdAt W q b) (la : a < 256 ^ 20) (lb : b < 256 ^ 20) : (Extern.BytealgCompare.compare #[.slice (some p) 20 c, .slice (some q) 20 d]).run P W = .ok (.int .i64 (acmp a b)) W := by
  have h1 := run_adBytes (P := P) ha
  have h2 := run_adBytes (P := P) hb
  change Sem.run P (do pure (goInt (Extern.BytealgCompare.cmp (← Extern.Bytes.bytesOf (.slice (some p) 20 c)) (← Extern.Bytes.bytesOf (.slice (some q) 20 d))))) W = _
  simp only [Extern.Bytes.bytesOf, Sem.run_bind, Sem.run_pure, Result.andThen, h1, h2]
  rw [Lib.cmp_eq]
  have key := cmp_low 20 a b
  rw [Nat.mod_eq_of_lt la, Nat.mod_eq_of_lt lb] at key
  simp only [key]
  rfl
end Go.Proofs.YtadfkiebblmfkaaGreatDoor

/- Package state: Empty, may, stray. Conditions: the account's slots lie in memory. -/
namespace Go.Proofs.YtadfkiebblmfkaaGreatDoor
open Go Go.RowKit
attribute [local go_sem] Oper.semAt_some Grows wide_fn eq4

noncomputable def emptyB (x : Ac) : Bool := decide (x.bal = 0) && (decide (x.non = 0) && (decide (x.code.size = 0) && decide (x.slots.length = 0)))
noncomputable def mayB (x : Ac) : Bool := decide (0 ≤ x.non) && (decide (x.non ≤ 9007199254740992) && (decide (x.code.size ≤ 24576) && rightB' x.slots))
theorem no_bytes (b : ByteArray) : b.toList.isEmpty = decide (b.size = 0) := by
  rw [ByteArray.toList_eq]
  have h : b.data.toList.length = b.size := by simp
  cases hl : b.data.toList with
  | nil => rw [hl] at h; simp at h; rw [decide_eq_true h.symm]; rfl
  | cons c r => rw [hl] at h; simp at h; rw [decide_eq_false (by omega)]; rfl
set_option maxRecDepth 100000 in
set_option maxHeartbeats 4000000 in
theorem empty_any (W : World) (x : Ac) (sv : Value) (hx : AcOk x) (hs : SlotsAt W sv x.slots) :
    Calls Tryz.prog 16 #[.agg (acC x sv)] W fun e w' => e = .returned (.bool (emptyB x)) ∧ Below W.heap.size W w' := by
  have B := Has.new W 31 (acC x sv)
  have Q := Lib.hid ((Below.refl W.heap.size W).alloc (Nat.le_refl _) (.cells (acC x sv) 31))
  obtain ⟨a, cap, rfl, hn, hc⟩ := hs.shape
  obtain ⟨c0, c1, c2, c3, c4, c5, c6⟩ := B.acc
  have hz := zero_w x.bal hx.bal
  have HRES := Lib.hid (show emptyB x = (decide (x.bal = 0) && (decide (x.non = 0) && (decide (x.code.size = 0) && decide (x.slots.length = 0)))) from rfl)
  have hno := hx.non
  unfold I64 at hno
  have hcs := no_bytes x.code
  generalize emptyB x = res at *
  generalize acC x (.slice a x.slots.length cap) = cs at *
  generalize x.slots.length = n at *
  generalize lim x.bal 0 = l0 at *
  generalize lim x.bal 1 = l1 at *
  generalize lim x.bal 2 = l2 at *
  generalize lim x.bal 3 = l3 at *
  generalize x.non = no at *
  generalize x.code = code at *
  replace B := Lib.hid B
  replace hcs := Lib.hid hcs
  clear hs hx
  have hn0 : (0 : Int) ≤ (n : Int) := by omega
  by_cases h1 : x.bal = 0
  · rw [decide_eq_true h1] at hz HRES
    clear h1
    by_cases h2 : no = 0
    · have h2I : (no == 0) = true := by simp [h2]
      rw [decide_eq_true h2] at HRES
      clear h2
      by_cases h3 : code.size = 0
      · have h3I : code.toList.isEmpty = true := (hcs.out).trans (decide_eq_true h3)
        rw [decide_eq_true h3] at HRES
        clear h3
        by_cases h4 : n = 0
        · subst h4
          rw [decide_eq_true rfl] at HRES
          go_enter Tryz.func16, Tryz.ntmps16
          go_wp2_with fail
          go_ret
          exact ⟨by rw [HRES.out]; rfl, Q.out⟩
        · have h4I : ((n : Int) == 0) = false := by rw [beq_eq_false_iff_ne]; omega
          rw [decide_eq_false h4] at HRES
          clear h4
          go_enter Tryz.func16, Tryz.ntmps16
          go_wp2_with fail
          go_ret
          exact ⟨by rw [HRES.out]; rfl, Q.out⟩
      · have h3I : code.toList.isEmpty = false := (hcs.out).trans (decide_eq_false h3)
        rw [decide_eq_false h3] at HRES
        clear h3
        go_enter Tryz.func16, Tryz.ntmps16
        go_wp2_with fail
        go_ret
        exact ⟨by rw [HRES.out]; rfl, Q.out⟩
    · have h2I : (no == 0) = false := by rw [beq_eq_false_iff_ne]; exact h2
      rw [decide_eq_false h2] at HRES
      clear h2
      go_enter Tryz.func16, Tryz.ntmps16
      go_wp2_with fail
      go_ret
      exact ⟨by rw [HRES.out]; rfl, Q.out⟩
  · rw [decide_eq_false h1] at hz HRES
    clear h1
    go_enter Tryz.func16, Tryz.ntmps16
    go_wp2_with fail
    go_ret
    exact ⟨by rw [HRES.out]; rfl, Q.out⟩
set_option maxRecDepth 100000 in
set_option maxHeartbeats 4000000 in
theorem may_any (W : World) (x : Ac) (sv : Value) (hx : AcOk x) (hs : SlotsAt W sv x.slots) :
    Calls Tryz.prog 58 #[.agg (acC x sv)] W fun e w' => e = .returned (.bool (mayB x)) ∧ Below W.heap.size W w' := by
  have B := Has.new W 31 (acC x sv)
  have hq := (Below.refl W.heap.size W).alloc (Nat.le_refl _) (.cells (acC x sv) 31)
  have Q := Lib.hid hq
  obtain ⟨c0, c1, c2, c3, c4, c5, c6⟩ := B.acc
  have HC := Lib.hid (right_slots _ sv x.slots (hs.later hq))
  have HRES := Lib.hid (show mayB x = (decide (0 ≤ x.non) && (decide (x.non ≤ 9007199254740992) && (decide (x.code.size ≤ 24576) && rightB' x.slots))) from rfl)
  have hcs := hx.code
  generalize mayB x = res at *
  generalize rightB' x.slots = rb at *
  generalize acC x sv = cs at *
  generalize x.non = no at *
  generalize x.code = code at *
  replace B := Lib.hid B
  clear hs hx hq
  have hcI : (code.size : Int) ≤ 140737488355328 := by omega
  clear hcs
  by_cases h1 : 0 ≤ no
  · rw [decide_eq_true h1] at HRES
    by_cases h2 : no ≤ 9007199254740992
    · rw [decide_eq_true h2] at HRES
      by_cases h3 : code.size ≤ 24576
      · rw [decide_eq_true h3] at HRES
        have h3I : (code.size : Int) ≤ 24576 := by omega
        clear h3
        go_enter Tryz.func58, Tryz.ntmps58
        go_wp2_with fail
        refine HC.out.mono ?_
        rintro _ w1 ⟨rfl, hb⟩
        have QE := Lib.hid (Q.out.trans (hb.mono Q.out.size))
        clear hb HC
        go_wp2_with fail
        go_ret
        exact ⟨by rw [HRES.out]; rfl, QE.out⟩
      · rw [decide_eq_false h3] at HRES
        have h3I : ¬ (code.size : Int) ≤ 24576 := by omega
        clear h3
        go_enter Tryz.func58, Tryz.ntmps58
        go_wp2_with fail
        go_ret
        exact ⟨by rw [HRES.out]; rfl, Q.out⟩
    · rw [decide_eq_false h2] at HRES
      go_enter Tryz.func58, Tryz.ntmps58
      go_wp2_with fail
      go_ret
      exact ⟨by rw [HRES.out]; rfl, Q.out⟩
  · rw [decide_eq_false h1] at HRES
    go_enter Tryz.func58, Tryz.ntmps58
    go_wp2_with fail
    go_ret
    exact ⟨by rw [HRES.out]; rfl, Q.out⟩
set_option maxRecDepth 100000 in
set_option maxHeartbeats 4000000 in
theorem stray_any (W : World) (x : Ac) (sv : Value) (hx : AcOk x) (hs : SlotsAt W sv x.slots) :
    Calls Tryz.prog 33 #[.agg (acC x sv)] W fun e w' => e = .returned (.bool (emptyB x || !mayB x)) ∧ Below W.heap.size W w' := by
  have hB := Has.new W 31 (acC x sv)
  have hq := (Below.refl W.heap.size W).alloc (Nat.le_refl _) (.cells (acC x sv) 31)
  obtain ⟨V, hV⟩ : ∃ V, W.alloc (.cells (acC x sv) 31) = V := ⟨_, rfl⟩
  rw [hV] at hB hq
  have B := Lib.hid hB
  have Q := Lib.hid hq
  have HL := Lib.hid (fun (X : World) (hX : Below V.heap.size V X) => (hB.later hX).accLoad)
  have HE := Lib.hid (empty_any V x sv hx (hs.later hq))
  have HM := Lib.hid (fun (X : World) (hX : Below V.heap.size V X) => may_any X x sv hx ((hs.later hq).later hX))
  generalize emptyB x = eb at *
  generalize mayB x = mb at *
  generalize acC x sv = cs at *
  clear hB hq hs hx
  have hl := HL.out V (Below.refl _ _)
  go_enter Tryz.func33, Tryz.ntmps33
  go_wp2_with (refine wpList_load_known rfl _ _ rfl _ rfl _ hl ?_)
  refine HE.out.mono ?_
  rintro _ w1 ⟨rfl, hb⟩
  have hl2 := HL.out w1 hb
  have Q1 := Lib.hid (Q.out.trans (hb.mono Q.out.size))
  have HM1 := Lib.hid (HM.out w1 hb)
  clear hb hl HE HM HL hV
  cases eb
  · go_wp2_with (refine wpList_load_known rfl _ _ rfl _ rfl _ hl2 ?_)
    refine HM1.out.mono ?_
    rintro _ w2 ⟨rfl, hb⟩
    have Q2 := Lib.hid (Q1.out.trans (hb.mono Q1.out.size))
    clear hb hl2 HM1
    go_wp2_with fail
    go_ret
    exact ⟨rfl, Q2.out⟩
  · go_wp2_with fail
    go_ret
    exact ⟨rfl, Q1.out⟩
end Go.Proofs.YtadfkiebblmfkaaGreatDoor

/- Package state: order. Conditions: none. -/
namespace Go.Proofs.YtadfkiebblmfkaaGreatDoor
open Go Go.RowKit
attribute [local go_sem] Oper.semAt_some Grows wide_fn

def adC (n : Nat) : Array Value := (adL n).toArray
theorem adC_size (n : Nat) : (adC n).size = 20 := by simp [adC, adL_len]
theorem adL_at (n j : Nat) (h : j < 20) : (adL n)[j]? = some (.int .u8 ((adB n j : Nat) : Int)) := by simp [adL, h]
theorem add_lit (B o j : Nat) : (⟨B, o, none⟩ : Addr).add j = ⟨B, o + j, none⟩ := by unfold Addr.add; split <;> simp_all
theorem Has.ad {W : World} {B : Nat} {t : TypeId} {n : Nat} (h : Has W B t (adC n)) : AdAt W ⟨B, 0, none⟩ n := fun j hj => by
  rw [add_lit, Nat.zero_add]
  exact h.cell j _ (by simp [adC, adL_at n j hj])
theorem Has.accAd {W : World} {B : Nat} {t : TypeId} {x : Ac} {sv : Value} (h : Has W B t (acC x sv)) : AdAt W ⟨B, 0, none⟩ x.at_ := fun j hj => by
  rw [add_lit, Nat.zero_add]
  exact h.cell j _ (by simp [acC, acL_at x sv j hj])
set_option maxRecDepth 100000 in
set_option maxHeartbeats 4000000 in
theorem compare_any (W : World) (p q : Addr) (a b c d : Nat) (ha : AdAt W p a) (hb : AdAt W q b) (la : a < 256 ^ 20) (lb : b < 256 ^ 20) :
    Calls Tryz.prog 89 #[.slice (some p) 20 c, .slice (some q) 20 d] W fun e w' => e = .returned (.int .i64 (acmp a b)) ∧ W = w' := by
  have HR := Lib.hid (run_compare (P := Tryz.prog) (c := c) (d := d) ha hb la lb)
  clear ha hb la lb
  generalize acmp a b = r at *
  go_enter Tryz.func89, Tryz.ntmps89
  go_wp2
  rw [run_callFunc_extern Tryz.func116 (by kernel_rfl) (by kernel_rfl) (by kernel_rfl) (e := Extern.BytealgCompare.compare) (by kernel_rfl), HR.out]
  simp only [Result.andThen]
  rw [Oper.upon_value]
  go_wp2
  go_ret
  exact ⟨rfl, rfl⟩
set_option maxRecDepth 100000 in
set_option maxHeartbeats 4000000 in
theorem order_any (W : World) (x : Ac) (sv : Value) (hx : AcOk x) (n : Nat) (hn : n < 256 ^ 20) :
    Calls Tryz.prog 56 #[.agg (acC x sv), .agg (adC n)] W fun e w' => e = .returned (.int .i64 (acmp x.at_ n)) ∧ Below W.heap.size W w' := by
  have hmx : Tryz.prog.follows .mixedOrders = true := by kernel_rfl
  have K1 := (Has.new W 31 (acC x sv)).alloc (.cells (adC n) 25)
  have K2 := Has.new (W.alloc (.cells (acC x sv) 31)) 25 (adC n)
  simp only [World.size_alloc] at K2
  have q0 := ((Below.refl W.heap.size W).alloc (Nat.le_refl _) (.cells (acC x sv) 31)).alloc (by simp) (.cells (adC n) 25)
  obtain ⟨V, hV⟩ : ∃ V, (W.alloc (.cells (acC x sv) 31)).alloc (.cells (adC n) 25) = V := ⟨_, rfl⟩
  rw [hV] at K1 K2 q0
  have hx20 := hx.at_
  have HC := Lib.hid (fun z : Ext V => (show Calls Tryz.prog 89 #[.slice (some ⟨W.heap.size, 0, none⟩) 20 20, .slice (some ⟨W.heap.size + 1, 0, none⟩) 20 20] z.w fun e w' => e = .returned (.int .i64 (acmp x.at_ n)) ∧ ∃ y : Ext V, w' = y.w from
    (compare_any z.w _ _ x.at_ n 20 20 (K1.later z.below).accAd (K2.later z.below).ad hx20 hn).mono fun _ _ ⟨h1, h2⟩ => ⟨h1, z, h2.symm⟩))
  have Q := Lib.hid q0
  generalize acmp x.at_ n = r at *
  generalize acC x sv = cs at *
  generalize adC n = ds at *
  replace K1 := Lib.hid K1
  replace K2 := Lib.hid K2
  clear q0 hx hn hx20
  go_enter Tryz.func56, Tryz.ntmps56
  go_wp2_with fail
  refine wp_region_quietL (C := Grows V) hmx (by kernel_rfl) (grows_refl V) ?_
  repeat (go_big_quiet_step (first | (with_reducible exact HC.out _)))
  refine wpQuiet_nil ?_
  rintro _ ⟨z, rfl⟩
  have QE := Lib.hid (Q.out.trans (z.below.mono Q.out.size))
  go_wp2_with fail
  go_ret
  exact ⟨rfl, QE.out⟩
end Go.Proofs.YtadfkiebblmfkaaGreatDoor
