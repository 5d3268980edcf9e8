/- Digits and pieces of texts. For every text. -/
import Derived.Test.YtgejdkiehcpinaaDoorWordF
namespace Go.Proofs.YtgejdkiehcpinaaDoor
open Go Go.RowKit Go.Shelf
attribute [local go_sem] Oper.semAt_some Grows wide_fn

/-- A kind of digits: its base, and which byte is which one. -/
structure Kind where
  base : Nat
  dig : UInt8 → Option Nat
  pos : 2 ≤ base
  top : base ≤ 256
  lt : ∀ c v, dig c = some v → v < base
def decD (c : UInt8) : Option Nat := if 48 ≤ c.toNat ∧ c.toNat ≤ 57 then some (c.toNat - 48) else none
def hexD (c : UInt8) : Option Nat := if 48 ≤ c.toNat ∧ c.toNat ≤ 57 then some (c.toNat - 48) else if 97 ≤ c.toNat ∧ c.toNat ≤ 102 then some (c.toNat - 97 + 10) else none
theorem decD_lt (c : UInt8) (v : Nat) (h : decD c = some v) : v < 10 := by
  unfold decD at h
  split at h
  · cases h; omega
  · cases h
theorem hexD_lt (c : UInt8) (v : Nat) (h : hexD c = some v) : v < 16 := by
  unfold hexD at h
  split at h
  · cases h; omega
  · split at h
    · cases h; omega
    · cases h
def octK : Kind := ⟨256, fun c => some c.toNat, by decide, by decide, fun c v h => by cases h; exact c.toNat_lt⟩
def decK : Kind := ⟨10, decD, by decide, by decide, decD_lt⟩
def hexK : Kind := ⟨16, hexD, by decide, by decide, hexD_lt⟩

/-- The number of digits, behind one that there was; none: one of them is no digit. -/
def numFrom (K : Kind) (n : Nat) : List UInt8 → Option Nat
  | [] => some n
  | c :: r => match K.dig c with | some v => numFrom K (n * K.base + v) r | none => none
theorem numFrom_append (K : Kind) : ∀ (a : List UInt8) (n : Nat) (b : List UInt8), numFrom K n (a ++ b) = (numFrom K n a).bind fun m => numFrom K m b
  | [], n, b => rfl
  | c :: r, n, b => by
    simp only [List.cons_append, numFrom]
    cases K.dig c with
    | none => rfl
    | some v => exact numFrom_append K r _ b
theorem numFrom_lt (K : Kind) : ∀ (l : List UInt8) (n m : Nat), numFrom K n l = some m → m < (n + 1) * K.base ^ l.length
  | [], n, m, h => by cases h; simp
  | c :: r, n, m, h => by
    simp only [numFrom] at h
    cases hd : K.dig c with
    | none => rw [hd] at h; cases h
    | some v =>
      rw [hd] at h
      have h1 := numFrom_lt K r _ m h
      have h2 := K.lt c v hd
      refine Nat.lt_of_lt_of_le h1 ?_
      rw [List.length_cons, Nat.pow_succ, Nat.mul_comm (K.base ^ r.length), ← Nat.mul_assoc]
      exact Nat.mul_le_mul_right _ (by rw [Nat.add_mul]; omega)
theorem numFrom_zero (K : Kind) : ∀ (l : List UInt8) (n : Nat), numFrom K n l = (numFrom K 0 l).map fun m => n * K.base ^ l.length + m
  | [], n => by simp [numFrom]
  | c :: r, n => by
    simp only [numFrom]
    cases hd : K.dig c with
    | none => rfl
    | some v =>
      simp only []
      rw [numFrom_zero K r (n * K.base + v), numFrom_zero K r (0 * K.base + v)]
      cases numFrom K 0 r with
      | none => rfl
      | some m =>
        simp only [Option.map_some, List.length_cons, Nat.pow_succ, Option.some.injEq]
        rw [Nat.add_mul, Nat.add_mul, Nat.mul_assoc, Nat.mul_comm K.base (K.base ^ r.length)]
        omega
/-- What a piece tells. -/
def smallV (K : Kind) (l : List UInt8) : Value := match numFrom K 0 l with
  | some n => .tuple #[.int .u64 (n : Int), .int .u64 ((K.base ^ l.length : Nat) : Int), .bool true]
  | none => .tuple #[.int .u64 0, .int .u64 0, .bool false]

theorem meth_oct_base (v : Value) (W : World) : (method 231 76 v "railhead/word.base").run Tryd.prog W = .ok (98, v) W := by kernel_rfl
theorem meth_oct_value (v : Value) (W : World) : (method 231 76 v "railhead/word.value").run Tryd.prog W = .ok (99, v) W := by kernel_rfl
theorem meth_dec_base (v : Value) (W : World) : (method 231 72 v "railhead/word.base").run Tryd.prog W = .ok (94, v) W := by kernel_rfl
theorem meth_dec_value (v : Value) (W : World) : (method 231 72 v "railhead/word.value").run Tryd.prog W = .ok (95, v) W := by kernel_rfl
theorem meth_hex_base (v : Value) (W : World) : (method 231 73 v "railhead/word.base").run Tryd.prog W = .ok (96, v) W := by kernel_rfl
theorem meth_hex_value (v : Value) (W : World) : (method 231 73 v "railhead/word.value").run Tryd.prog W = .ok (97, v) W := by kernel_rfl

/-- What one digit tells. -/
def digV : Option Nat → Value
  | some v => .tuple #[.int .u64 (v : Int), .bool true]
  | none => .tuple #[.int .u64 0, .bool false]
def SameRet (P : Program) (f : FuncId) (args : Array Value) (v : Value) : Prop := ∀ w, Calls P f args w fun e w' => e = .returned v ∧ w = w'

theorem base_oct (v : Value) : SameRet Tryd.prog 98 #[v] (.int .u64 256) := by
  intro w
  go_enter Tryd.func98, Tryd.ntmps98
  go_wp2
  go_ret
  exact ⟨rfl, rfl⟩
theorem value_oct (c : UInt8) : SameRet Tryd.prog 99 #[.int .u8 (c.toNat : Int)] (digV (octK.dig c)) := by
  intro w
  show Calls _ _ _ _ fun e w' => e = .returned (.tuple #[.int .u64 (c.toNat : Int), .bool true]) ∧ w = w'
  have h := c.toNat_lt
  go_enter Tryd.func99, Tryd.ntmps99
  go_wp2
  go_ret2
  exact ⟨rfl, rfl⟩

theorem base_dec (v : Value) : SameRet Tryd.prog 94 #[v] (.int .u64 10) := by
  intro w
  go_enter Tryd.func94, Tryd.ntmps94
  go_wp2
  go_ret
  exact ⟨rfl, rfl⟩
theorem value_dec (c : UInt8) : SameRet Tryd.prog 95 #[.int .u8 (c.toNat : Int)] (digV (decK.dig c)) := by
  intro w
  have h := c.toNat_lt
  by_cases h1 : c.toNat < 48
  · have e : decK.dig c = none := by show decD c = none; unfold decD; rw [if_neg (by omega)]
    rw [e]
    show Calls _ _ _ _ fun e w' => e = .returned (.tuple #[.int .u64 0, .bool false]) ∧ w = w'
    clear e
    go_enter Tryd.func95, Tryd.ntmps95
    go_wp2
    go_ret2
    exact ⟨rfl, rfl⟩
  · by_cases h2 : 57 < c.toNat
    · have e : decK.dig c = none := by show decD c = none; unfold decD; rw [if_neg (by omega)]
      rw [e]
      show Calls _ _ _ _ fun e w' => e = .returned (.tuple #[.int .u64 0, .bool false]) ∧ w = w'
      clear e
      go_enter Tryd.func95, Tryd.ntmps95
      go_wp2
      go_ret2
      exact ⟨rfl, rfl⟩
    · have e : decK.dig c = some (c.toNat - 48) := by show decD c = _; unfold decD; rw [if_pos (by omega)]
      rw [e]
      show Calls _ _ _ _ fun e w' => e = .returned (.tuple #[.int .u64 ((c.toNat - 48 : Nat) : Int), .bool true]) ∧ w = w'
      rw [show ((c.toNat - 48 : Nat) : Int) = (c.toNat : Int) - 48 by omega]
      clear e
      go_enter Tryd.func95, Tryd.ntmps95
      go_wp2
      go_ret2
      exact ⟨rfl, rfl⟩

theorem base_hex (v : Value) : SameRet Tryd.prog 96 #[v] (.int .u64 16) := by
  intro w
  go_enter Tryd.func96, Tryd.ntmps96
  go_wp2
  go_ret
  exact ⟨rfl, rfl⟩
theorem value_hex (c : UInt8) : SameRet Tryd.prog 97 #[.int .u8 (c.toNat : Int)] (digV (hexK.dig c)) := by
  intro w
  have h := c.toNat_lt
  by_cases q0 : c.toNat < 48
  · have e : hexK.dig c = none := by show hexD c = none; unfold hexD; rw [if_neg (by omega), if_neg (by omega)]
    rw [e]
    show Calls _ _ _ _ fun e w' => e = .returned (.tuple #[.int .u64 0, .bool false]) ∧ w = w'
    clear e
    go_enter Tryd.func97, Tryd.ntmps97
    go_wp2
    go_ret2
    exact ⟨rfl, rfl⟩
  ·
    by_cases q1 : c.toNat ≤ 57 ∧ 48 ≤ c.toNat
    · obtain ⟨x1, y1⟩ := q1
      have e : hexK.dig c = some (c.toNat - 48) := by show hexD c = _; unfold hexD; rw [if_pos (by omega)]
      rw [e]
      show Calls _ _ _ _ fun e w' => e = .returned (.tuple #[.int .u64 ((c.toNat - 48 : Nat) : Int), .bool true]) ∧ w = w'
      rw [show ((c.toNat - 48 : Nat) : Int) = (c.toNat : Int) - 48 by omega]
      clear e
      clear q0
      go_enter Tryd.func97, Tryd.ntmps97
      go_wp2
      go_ret2
      exact ⟨rfl, rfl⟩
    ·
      by_cases q2 : c.toNat < 97 ∧ 57 < c.toNat
      · obtain ⟨x2, y2⟩ := q2
        have e : hexK.dig c = none := by show hexD c = none; unfold hexD; rw [if_neg (by omega), if_neg (by omega)]
        rw [e]
        show Calls _ _ _ _ fun e w' => e = .returned (.tuple #[.int .u64 0, .bool false]) ∧ w = w'
        clear e
        have z1 : 57 < c.toNat := y2
        have z2 : ¬ c.toNat ≤ 57 := by omega
        have z4 : ¬ c.toNat < 48 := by omega
        clear q0 q1
        go_enter Tryd.func97, Tryd.ntmps97
        go_wp2
        go_ret2
        exact ⟨rfl, rfl⟩
      ·
        by_cases q3 : c.toNat ≤ 102 ∧ 97 ≤ c.toNat
        · obtain ⟨x3, y3⟩ := q3
          have e : hexK.dig c = some (c.toNat - 97 + 10) := by show hexD c = _; unfold hexD; rw [if_neg (by omega), if_pos (by omega)]
          rw [e]
          show Calls _ _ _ _ fun e w' => e = .returned (.tuple #[.int .u64 ((c.toNat - 97 + 10 : Nat) : Int), .bool true]) ∧ w = w'
          rw [show ((c.toNat - 97 + 10 : Nat) : Int) = (c.toNat : Int) - 97 + 10 by omega]
          clear e
          have z2 : ¬ c.toNat ≤ 57 := by omega
          have z4 : ¬ c.toNat < 48 := by omega
          clear q0 q1 q2
          go_enter Tryd.func97, Tryd.ntmps97
          go_wp2
          go_ret2
          exact ⟨rfl, rfl⟩
        ·
          have q4 : 102 < c.toNat := by omega
          have e : hexK.dig c = none := by show hexD c = none; unfold hexD; rw [if_neg (by omega), if_neg (by omega)]
          rw [e]
          show Calls _ _ _ _ fun e w' => e = .returned (.tuple #[.int .u64 0, .bool false]) ∧ w = w'
          clear e
          have z2 : ¬ c.toNat ≤ 57 := by omega
          have z4 : ¬ c.toNat < 48 := by omega
          clear q0 q1 q2
          have z5 : ¬ c.toNat ≤ 102 := by omega
          clear q3
          go_enter Tryd.func97, Tryd.ntmps97
          go_wp2
          go_ret2
          exact ⟨rfl, rfl⟩

theorem octK_base : octK.base = 256 := rfl
theorem decK_base : decK.base = 10 := rfl
theorem hexK_base : hexK.base = 16 := rfl
theorem take_snoc (s : ByteArray) (k : Nat) (h : k < s.size) : s.data.toList.take (k + 1) = s.data.toList.take k ++ [s[k]] := by
  rw [List.take_succ_eq_append_getElem (by simpa using h)]; rfl
theorem numFrom_snoc (K : Kind) (l : List UInt8) (c : UInt8) : numFrom K 0 (l ++ [c]) = (numFrom K 0 l).bind fun n => (K.dig c).map fun v => n * K.base + v := by
  rw [numFrom_append]
  cases numFrom K 0 l with
  | none => rfl
  | some n => simp only [Option.bind_some, numFrom]; cases K.dig c <;> rfl
theorem numFrom_bad (K : Kind) (s : ByteArray) (k : Nat) (h : k < s.size) (hd : K.dig s[k] = none) : numFrom K 0 s.data.toList = none := by
  have e : s.data.toList = s.data.toList.take k ++ (s[k] :: s.data.toList.drop (k + 1)) := by
    have := List.take_append_drop k s.data.toList
    rw [List.drop_eq_getElem_cons (by simpa using h)] at this
    exact this.symm
  rw [e, numFrom_append]
  cases numFrom K 0 (s.data.toList.take k) with
  | none => rfl
  | some n => simp only [Option.bind_some, numFrom, hd]

set_option maxRecDepth 100000 in
set_option maxHeartbeats 2000000 in
theorem small_oct (s : ByteArray) (hs : s.size ≤ 7) : SameRet Tryd.prog 64 #[.string s] (smallV octK s.data.toList) := by
  intro w
  have hmb := meth_oct_base
  have hmv := meth_oct_value
  go_enter Tryd.func64, Tryd.ntmps64
  go_wp2_with (go_at_call 98; refine (base_oct _ _).mono ?_; rintro e w' ⟨rfl, rfl⟩)
  go_loop [2, 3, 4, 14] (fun n u b i => ∃ k m : Nat, b = .bool false ∧ k ≤ s.size ∧ numFrom octK 0 (s.data.toList.take k) = some m ∧ i = .int .i64 k ∧ n = .int .u64 (m : Int) ∧ u = .int .u64 ((256 ^ k : Nat) : Int)) (fun _ _ _ i => s.size - (intOf i).toNat)
  case atStart => exact ⟨0, 0, rfl, Nat.zero_le _, rfl, rfl, rfl, rfl⟩
  case round =>
    obtain ⟨k, m, rfl, hk, hnum, rfl, rfl, rfl⟩ := hrel
    have hm := numFrom_lt octK _ _ _ hnum
    rw [octK_base, List.length_take, Nat.min_eq_left (by simpa using hk), Nat.zero_add, Nat.one_mul] at hm
    by_cases hlt : k < s.size
    · have hpow : 256 ^ k ≤ 256 ^ 6 := Nat.pow_le_pow_right (by decide) (by omega)
      have hpc := Nat.pow_succ (n := 256) (m := k)
      have hsn := numFrom_snoc octK (s.data.toList.take k) s[k]
      rw [← take_snoc s k hlt, hnum] at hsn
      have hv := value_oct s[k]
      cases hd : octK.dig s[k] with
      | none =>
        have hfin : smallV octK s.data.toList = .tuple #[.int .u64 0, .int .u64 0, .bool false] := by unfold smallV; rw [numFrom_bad octK s k hlt hd]
        rw [hd] at hv
        have HV : SameRet Tryd.prog 99 #[.int .u8 (s[k].toNat : Int)] (.tuple #[.int .u64 0, .bool false]) := hv
        have HF := Lib.hid hfin
        clear hsn hpc hpow hm hnum hv hd hfin
        go_wp2_with (go_at_call 99; refine (HV _).mono ?_; rintro e w' ⟨rfl, rfl⟩)
        refine bodyPost_ret (v := .tuple #[.int .u64 0, .int .u64 0, .bool false]) (by simp [results, Tryd.results64, go_sem]) rfl ⟨by rw [HF.out], rfl⟩
      | some v =>
        rw [hd] at hv hsn
        have hvl := octK.lt _ _ hd
        have HV : SameRet Tryd.prog 99 #[.int .u8 (s[k].toNat : Int)] (.tuple #[.int .u64 (v : Int), .bool true]) := hv
        simp only [Option.bind_some, Option.map_some, octK_base] at hsn
        rw [octK_base] at hvl
        have hpI : ((256 ^ k : Nat) : Int) ≤ 281474976710656 := (by have h6 : (256 : Nat) ^ 6 = 281474976710656 := (by decide); omega)
        have hp0 : (0 : Int) ≤ ((256 ^ k : Nat) : Int) := by omega
        have hm0 : (m : Int) < ((256 ^ k : Nat) : Int) := by omega
        have HS := Lib.hid hsn
        have HP : Hid (((256 ^ (k + 1) : Nat) : Int) = ((256 ^ k : Nat) : Int) * 256) := by rw [hpc]; exact Int.natCast_mul ..
        have hv0 : (v : Int) < 256 := by omega
        have w1 : IntKind.u64.wrap ((m : Int) * 256) = (m : Int) * 256 := by rw [IntKind.wrap_u64]; omega
        have w2 : IntKind.u64.wrap ((m : Int) * 256 + v) = (m : Int) * 256 + v := by rw [IntKind.wrap_u64]; omega
        have w3 : IntKind.u64.wrap (((256 ^ k : Nat) : Int) * 256) = ((256 ^ k : Nat) : Int) * 256 := by rw [IntKind.wrap_u64]; omega
        generalize ((256 ^ k : Nat) : Int) = P at *
        clear hsn hpc hpow hm hnum hv hd hvl hp0 hm0 hpI
        go_wp2_with (go_at_call 99; refine (HV _).mono ?_; rintro e w' ⟨rfl, rfl⟩)
        go_round
        case rel => exact ⟨k + 1, m * 256 + v, rfl, by omega, HS.out, by simp, by rw [Int.natCast_add, Int.natCast_mul]; rfl, by rw [HP.out]⟩
        case measure => simp [intOf]; omega
    · obtain rfl : k = s.size := by omega
      have hfin : smallV octK s.data.toList = .tuple #[.int .u64 (m : Int), .int .u64 ((256 ^ s.size : Nat) : Int), .bool true] := by
        have e : s.data.toList.take s.size = s.data.toList := List.take_of_length_le (by simp)
        rw [e] at hnum
        unfold smallV; rw [hnum, octK_base]; simp
      have HF := Lib.hid hfin
      generalize ((256 ^ s.size : Nat) : Int) = P at *
      clear hnum hm hfin
      go_wp2
      refine bodyPost_ret (v := .tuple #[.int .u64 (m : Int), .int .u64 P, .bool true]) (by simp [results, Tryd.results64, go_sem]) rfl ⟨by rw [HF.out], rfl⟩

set_option maxRecDepth 100000 in
set_option maxHeartbeats 2000000 in
theorem small_dec (s : ByteArray) (hs : s.size ≤ 7) : SameRet Tryd.prog 61 #[.string s] (smallV decK s.data.toList) := by
  intro w
  have hmb := meth_dec_base
  have hmv := meth_dec_value
  go_enter Tryd.func61, Tryd.ntmps61
  go_wp2_with (go_at_call 94; refine (base_dec _ _).mono ?_; rintro e w' ⟨rfl, rfl⟩)
  go_loop [2, 3, 4, 14] (fun n u b i => ∃ k m : Nat, b = .bool false ∧ k ≤ s.size ∧ numFrom decK 0 (s.data.toList.take k) = some m ∧ i = .int .i64 k ∧ n = .int .u64 (m : Int) ∧ u = .int .u64 ((10 ^ k : Nat) : Int)) (fun _ _ _ i => s.size - (intOf i).toNat)
  case atStart => exact ⟨0, 0, rfl, Nat.zero_le _, rfl, rfl, rfl, rfl⟩
  case round =>
    obtain ⟨k, m, rfl, hk, hnum, rfl, rfl, rfl⟩ := hrel
    have hm := numFrom_lt decK _ _ _ hnum
    rw [decK_base, List.length_take, Nat.min_eq_left (by simpa using hk), Nat.zero_add, Nat.one_mul] at hm
    by_cases hlt : k < s.size
    · have hpow : 10 ^ k ≤ 10 ^ 6 := Nat.pow_le_pow_right (by decide) (by omega)
      have hpc := Nat.pow_succ (n := 10) (m := k)
      have hsn := numFrom_snoc decK (s.data.toList.take k) s[k]
      rw [← take_snoc s k hlt, hnum] at hsn
      have hv := value_dec s[k]
      cases hd : decK.dig s[k] with
      | none =>
        have hfin : smallV decK s.data.toList = .tuple #[.int .u64 0, .int .u64 0, .bool false] := by unfold smallV; rw [numFrom_bad decK s k hlt hd]
        rw [hd] at hv
        have HV : SameRet Tryd.prog 95 #[.int .u8 (s[k].toNat : Int)] (.tuple #[.int .u64 0, .bool false]) := hv
        have HF := Lib.hid hfin
        clear hsn hpc hpow hm hnum hv hd hfin
        go_wp2_with (go_at_call 95; refine (HV _).mono ?_; rintro e w' ⟨rfl, rfl⟩)
        refine bodyPost_ret (v := .tuple #[.int .u64 0, .int .u64 0, .bool false]) (by simp [results, Tryd.results61, go_sem]) rfl ⟨by rw [HF.out], rfl⟩
      | some v =>
        rw [hd] at hv hsn
        have hvl := decK.lt _ _ hd
        have HV : SameRet Tryd.prog 95 #[.int .u8 (s[k].toNat : Int)] (.tuple #[.int .u64 (v : Int), .bool true]) := hv
        simp only [Option.bind_some, Option.map_some, decK_base] at hsn
        rw [decK_base] at hvl
        have hpI : ((10 ^ k : Nat) : Int) ≤ 1000000 := (by have h6 : (10 : Nat) ^ 6 = 1000000 := (by decide); omega)
        have hp0 : (0 : Int) ≤ ((10 ^ k : Nat) : Int) := by omega
        have hm0 : (m : Int) < ((10 ^ k : Nat) : Int) := by omega
        have HS := Lib.hid hsn
        have HP : Hid (((10 ^ (k + 1) : Nat) : Int) = ((10 ^ k : Nat) : Int) * 10) := by rw [hpc]; exact Int.natCast_mul ..
        have hv0 : (v : Int) < 10 := by omega
        have w1 : IntKind.u64.wrap ((m : Int) * 10) = (m : Int) * 10 := by rw [IntKind.wrap_u64]; omega
        have w2 : IntKind.u64.wrap ((m : Int) * 10 + v) = (m : Int) * 10 + v := by rw [IntKind.wrap_u64]; omega
        have w3 : IntKind.u64.wrap (((10 ^ k : Nat) : Int) * 10) = ((10 ^ k : Nat) : Int) * 10 := by rw [IntKind.wrap_u64]; omega
        generalize ((10 ^ k : Nat) : Int) = P at *
        clear hsn hpc hpow hm hnum hv hd hvl hp0 hm0 hpI
        go_wp2_with (go_at_call 95; refine (HV _).mono ?_; rintro e w' ⟨rfl, rfl⟩)
        go_round
        case rel => exact ⟨k + 1, m * 10 + v, rfl, by omega, HS.out, by simp, by rw [Int.natCast_add, Int.natCast_mul]; rfl, by rw [HP.out]⟩
        case measure => simp [intOf]; omega
    · obtain rfl : k = s.size := by omega
      have hfin : smallV decK s.data.toList = .tuple #[.int .u64 (m : Int), .int .u64 ((10 ^ s.size : Nat) : Int), .bool true] := by
        have e : s.data.toList.take s.size = s.data.toList := List.take_of_length_le (by simp)
        rw [e] at hnum
        unfold smallV; rw [hnum, decK_base]; simp
      have HF := Lib.hid hfin
      generalize ((10 ^ s.size : Nat) : Int) = P at *
      clear hnum hm hfin
      go_wp2
      refine bodyPost_ret (v := .tuple #[.int .u64 (m : Int), .int .u64 P, .bool true]) (by simp [results, Tryd.results61, go_sem]) rfl ⟨by rw [HF.out], rfl⟩

set_option maxRecDepth 100000 in
set_option maxHeartbeats 2000000 in
theorem small_hex (s : ByteArray) (hs : s.size ≤ 7) : SameRet Tryd.prog 63 #[.string s] (smallV hexK s.data.toList) := by
  intro w
  have hmb := meth_hex_base
  have hmv := meth_hex_value
  go_enter Tryd.func63, Tryd.ntmps63
  go_wp2_with (go_at_call 96; refine (base_hex _ _).mono ?_; rintro e w' ⟨rfl, rfl⟩)
  go_loop [2, 3, 4, 14] (fun n u b i => ∃ k m : Nat, b = .bool false ∧ k ≤ s.size ∧ numFrom hexK 0 (s.data.toList.take k) = some m ∧ i = .int .i64 k ∧ n = .int .u64 (m : Int) ∧ u = .int .u64 ((16 ^ k : Nat) : Int)) (fun _ _ _ i => s.size - (intOf i).toNat)
  case atStart => exact ⟨0, 0, rfl, Nat.zero_le _, rfl, rfl, rfl, rfl⟩
  case round =>
    obtain ⟨k, m, rfl, hk, hnum, rfl, rfl, rfl⟩ := hrel
    have hm := numFrom_lt hexK _ _ _ hnum
    rw [hexK_base, List.length_take, Nat.min_eq_left (by simpa using hk), Nat.zero_add, Nat.one_mul] at hm
    by_cases hlt : k < s.size
    · have hpow : 16 ^ k ≤ 16 ^ 6 := Nat.pow_le_pow_right (by decide) (by omega)
      have hpc := Nat.pow_succ (n := 16) (m := k)
      have hsn := numFrom_snoc hexK (s.data.toList.take k) s[k]
      rw [← take_snoc s k hlt, hnum] at hsn
      have hv := value_hex s[k]
      cases hd : hexK.dig s[k] with
      | none =>
        have hfin : smallV hexK s.data.toList = .tuple #[.int .u64 0, .int .u64 0, .bool false] := by unfold smallV; rw [numFrom_bad hexK s k hlt hd]
        rw [hd] at hv
        have HV : SameRet Tryd.prog 97 #[.int .u8 (s[k].toNat : Int)] (.tuple #[.int .u64 0, .bool false]) := hv
        have HF := Lib.hid hfin
        clear hsn hpc hpow hm hnum hv hd hfin
        go_wp2_with (go_at_call 97; refine (HV _).mono ?_; rintro e w' ⟨rfl, rfl⟩)
        refine bodyPost_ret (v := .tuple #[.int .u64 0, .int .u64 0, .bool false]) (by simp [results, Tryd.results63, go_sem]) rfl ⟨by rw [HF.out], rfl⟩
      | some v =>
        rw [hd] at hv hsn
        have hvl := hexK.lt _ _ hd
        have HV : SameRet Tryd.prog 97 #[.int .u8 (s[k].toNat : Int)] (.tuple #[.int .u64 (v : Int), .bool true]) := hv
        simp only [Option.bind_some, Option.map_some, hexK_base] at hsn
        rw [hexK_base] at hvl
        have hpI : ((16 ^ k : Nat) : Int) ≤ 16777216 := (by have h6 : (16 : Nat) ^ 6 = 16777216 := (by decide); omega)
        have hp0 : (0 : Int) ≤ ((16 ^ k : Nat) : Int) := by omega
        have hm0 : (m : Int) < ((16 ^ k : Nat) : Int) := by omega
        have HS := Lib.hid hsn
        have HP : Hid (((16 ^ (k + 1) : Nat) : Int) = ((16 ^ k : Nat) : Int) * 16) := by rw [hpc]; exact Int.natCast_mul ..
        have hv0 : (v : Int) < 16 := by omega
        have w1 : IntKind.u64.wrap ((m : Int) * 16) = (m : Int) * 16 := by rw [IntKind.wrap_u64]; omega
        have w2 : IntKind.u64.wrap ((m : Int) * 16 + v) = (m : Int) * 16 + v := by rw [IntKind.wrap_u64]; omega
        have w3 : IntKind.u64.wrap (((16 ^ k : Nat) : Int) * 16) = ((16 ^ k : Nat) : Int) * 16 := by rw [IntKind.wrap_u64]; omega
        generalize ((16 ^ k : Nat) : Int) = P at *
        clear hsn hpc hpow hm hnum hv hd hvl hp0 hm0 hpI
        go_wp2_with (go_at_call 97; refine (HV _).mono ?_; rintro e w' ⟨rfl, rfl⟩)
        go_round
        case rel => exact ⟨k + 1, m * 16 + v, rfl, by omega, HS.out, by simp, by rw [Int.natCast_add, Int.natCast_mul]; rfl, by rw [HP.out]⟩
        case measure => simp [intOf]; omega
    · obtain rfl : k = s.size := by omega
      have hfin : smallV hexK s.data.toList = .tuple #[.int .u64 (m : Int), .int .u64 ((16 ^ s.size : Nat) : Int), .bool true] := by
        have e : s.data.toList.take s.size = s.data.toList := List.take_of_length_le (by simp)
        rw [e] at hnum
        unfold smallV; rw [hnum, hexK_base]; simp
      have HF := Lib.hid hfin
      generalize ((16 ^ s.size : Nat) : Int) = P at *
      clear hnum hm hfin
      go_wp2
      refine bodyPost_ret (v := .tuple #[.int .u64 (m : Int), .int .u64 P, .bool true]) (by simp [results, Tryd.results63, go_sem]) rfl ⟨by rw [HF.out], rfl⟩
end Go.Proofs.YtgejdkiehcpinaaDoor
