/- FromBytes; Parse. For every text that is not beyond the model's reach. -/
import Derived.Test.YtgejdkiehcpinaaDoorWordK
namespace Go.Proofs.YtgejdkiehcpinaaDoor
open Go Go.RowKit Go.Shelf
attribute [local go_sem] Oper.semAt_some Grows wide_fn

/-- The number of a list of bytes, the highest one first. -/
def octVal : Nat → List UInt8 → Nat
  | n, [] => n
  | n, c :: r => octVal (n * 256 + c.toNat) r
theorem numFrom_oct : ∀ (l : List UInt8) (n : Nat), numFrom octK n l = some (octVal n l)
  | [], _ => rfl
  | c :: r, n => numFrom_oct r (n * 256 + c.toNat)
theorem octVal_lt (l : List UInt8) : octVal 0 l < 256 ^ l.length := by
  have h := numFrom_lt octK l 0 _ (numFrom_oct l 0)
  rw [octK_base] at h
  omega
/-- The word of a text's bytes. -/
def fromB (l : List UInt8) : Nat := octVal 0 (l.drop (l.length - 32))
theorem fromB_lt (l : List UInt8) : W256 (fromB l) := by
  unfold fromB
  have h := octVal_lt (l.drop (l.length - 32))
  have h1 : (l.drop (l.length - 32)).length ≤ 32 := by rw [List.length_drop]; omega
  have h2 : 256 ^ (l.drop (l.length - 32)).length ≤ 256 ^ 32 := Nat.pow_le_pow_right (by decide) h1
  have h3 : (256 : Nat) ^ 32 = 115792089237316195423570985008687907853269984665640564039457584007913129639936 := by decide
  unfold W256
  omega
theorem numV_oct (l : List UInt8) : numV octK (l.drop (l.length - 32)) = .tuple #[wv (fromB l), .bool true] :=
  numV_good octK _ (fromB l) (numFrom_oct _ 0) (fromB_lt l)

set_option maxRecDepth 100000 in
set_option maxHeartbeats 1000000 in
theorem fromBytes_ret (s : ByteArray) (hs : s.size ≤ 140737488355328) : Ret Tryd.prog 30 #[.string s] (wv (fromB s.data.toList)) := by
  intro w
  have A0 := World.alloc_heap_new w (.cells #[.int .u64 0, .int .u64 0, .int .u64 0, .int .u64 0] 24)
  have core : ∀ t : ByteArray, t.data.toList = s.data.toList.drop (s.data.toList.length - 32) → Ret Tryd.prog 51 #[.string t] (.tuple #[wv (fromB s.data.toList), .bool true]) := fun t ht => by
    have hsz : t.size ≤ 140737488355328 := by
      have h1 : t.data.toList.length = t.size := by simp
      have h2 : s.data.toList.length = s.size := by simp
      rw [ht, List.length_drop, h2] at h1
      omega
    have h := number_oct t hsz
    rw [ht, numV_oct] at h
    exact h
  have h32 : s.data.toList.length = s.size := by simp
  by_cases hlong : 32 < s.size
  · have hc := core (s.extract (s.size - 32) s.size) (by rw [extract_list, h32, List.take_of_length_le (by rw [List.length_drop, h32]; omega)])
    have z1 : (0 : Int) < (s.size : Int) - 32 := by omega
    have z2 : (s.size : Int) - 32 ≤ (s.size : Int) := by omega
    have z4 : (s.size : Int) ≤ 1000000000000000 := by omega
    have HC := Lib.hid hc
    generalize fromB s.data.toList = n at *
    unfold wv at HC ⊢
    clear hc core h32 hlong hs
    go_enter Tryd.func30, Tryd.ntmps30
    go_wp2_with fail
    refine (HC.out _).mono ?_
    rintro e w1 ⟨rfl, hb1⟩
    have A4 : Arr4 w1 w.heap.size 24 (fun _ => 0) := Arr4.below (m := fun _ => 0) A0 hb1 (by simp)
    have BB := ((Below.refl _ w).alloc (Nat.le_refl _) (.cells #[.int .u64 0, .int .u64 0, .int .u64 0, .int .u64 0] 24)).trans (hb1.mono (by simp))
    have hz := BB.size
    have hz2 := A4.lt
    have c0 := A4.cell (j := 0) (by omega)
    have c1 := A4.cell (j := 1) (by omega)
    have c2 := A4.cell (j := 2) (by omega)
    have c3 := A4.cell (j := 3) (by omega)
    have f0 := A4.frozen 0
    have f1 := A4.frozen 1
    have f2 := A4.frozen 2
    have f3 := A4.frozen 3
    replace A4 := Lib.hid A4
    clear A0 hb1 HC
    go_wp2
    refine bodyPost_ret (results_word rfl rfl ((A4.out.store _).alloc _)) rfl ⟨rfl, ?_⟩
    (repeat (first | exact BB | refine Below.setCell ?_ (by first | omega | (simp; done) | (simp; omega)) _ | refine Below.alloc ?_ (by first | omega | (simp; done) | (simp; omega)) _ | refine Below.drew ?_))
  · have hc := core s (by rw [h32, show s.size - 32 = 0 by omega, List.drop_zero])
    have z1 : (s.size : Int) - 32 ≤ 0 := by omega
    have z4 : (s.size : Int) ≤ 1000000000000000 := by omega
    have HC := Lib.hid hc
    generalize fromB s.data.toList = n at *
    unfold wv at HC ⊢
    clear hc core h32 hlong hs
    go_enter Tryd.func30, Tryd.ntmps30
    go_wp2_with fail
    refine (HC.out _).mono ?_
    rintro e w1 ⟨rfl, hb1⟩
    have A4 : Arr4 w1 w.heap.size 24 (fun _ => 0) := Arr4.below (m := fun _ => 0) A0 hb1 (by simp)
    have BB := ((Below.refl _ w).alloc (Nat.le_refl _) (.cells #[.int .u64 0, .int .u64 0, .int .u64 0, .int .u64 0] 24)).trans (hb1.mono (by simp))
    have hz := BB.size
    have hz2 := A4.lt
    have c0 := A4.cell (j := 0) (by omega)
    have c1 := A4.cell (j := 1) (by omega)
    have c2 := A4.cell (j := 2) (by omega)
    have c3 := A4.cell (j := 3) (by omega)
    have f0 := A4.frozen 0
    have f1 := A4.frozen 1
    have f2 := A4.frozen 2
    have f3 := A4.frozen 3
    replace A4 := Lib.hid A4
    clear A0 hb1 HC
    go_wp2
    refine bodyPost_ret (results_word rfl rfl ((A4.out.store _).alloc _)) rfl ⟨rfl, ?_⟩
    (repeat (first | exact BB | refine Below.setCell ?_ (by first | omega | (simp; done) | (simp; omega)) _ | refine Below.alloc ?_ (by first | omega | (simp; done) | (simp; omega)) _ | refine Below.drew ?_))

/-! ### Parse -/
/-- What CutPrefix tells of '0x'. -/
def isHex (l : List UInt8) : Bool := match l with | 48 :: 120 :: _ => true | _ => false
def restOf (l : List UInt8) : List UInt8 := if isHex l then l.drop 2 else l
def hexPre : ByteArray := ⟨#[48, 120]⟩
theorem isHex_iff (s : ByteArray) : isHex s.data.toList = true ↔ (2 ≤ s.size ∧ s.extract 0 2 = hexPre) := by
  have hl : s.data.toList.length = s.size := by simp
  constructor
  · intro h
    unfold isHex at h
    split at h
    · rename_i r e
      have h2 : 2 ≤ s.size := by rw [← hl, e]; simp
      refine ⟨h2, ?_⟩
      have : (s.extract 0 2).data.toList = hexPre.data.toList := by rw [extract_list, e]; rfl
      exact ByteArray.ext (Array.toList_inj.1 this)
    · cases h
  · rintro ⟨h2, he⟩
    have : (s.extract 0 2).data.toList = [48, 120] := by rw [he]; rfl
    rw [extract_list] at this
    match hs : s.data.toList with
    | [] => rw [hs] at hl; simp at hl; omega
    | [_] => rw [hs] at hl; simp at hl; omega
    | a :: b :: r =>
      rw [hs] at this
      simp at this
      obtain ⟨rfl, rfl⟩ := this
      rfl
set_option maxRecDepth 100000 in
set_option maxHeartbeats 1000000 in
theorem cut_yes (s : ByteArray) (h2 : 2 ≤ s.size) (he : s.extract 0 2 = hexPre) : SameRet Tryd.prog 47 #[.string s, .string hexPre] (.tuple #[.string (s.extract 2 s.size), .bool true]) := by
  intro w
  unfold hexPre at *
  have z1 : (2 : Int) ≤ (s.size : Int) := by omega
  go_enter Tryd.func47, Tryd.ntmps47
  go_wp2
  go_ret2
  exact ⟨rfl, rfl⟩
set_option maxRecDepth 100000 in
set_option maxHeartbeats 1000000 in
theorem cut_no (s : ByteArray) (h : ¬ (2 ≤ s.size ∧ s.extract 0 2 = hexPre)) : SameRet Tryd.prog 47 #[.string s, .string hexPre] (.tuple #[.string s, .bool false]) := by
  intro w
  by_cases h2 : 2 ≤ s.size
  · have he : ¬ s.extract 0 2 = hexPre := fun e => h ⟨h2, e⟩
    unfold hexPre at *
    have he' : ((s.extract 0 2).toList == [48, 120]) = false := by
      rw [beq_eq_false_iff_ne]
      intro e
      rw [ByteArray.toList_eq] at e
      exact he (ByteArray.ext (Array.toList_inj.1 e))
    have z1 : (2 : Int) ≤ (s.size : Int) := by omega
    clear h
    go_enter Tryd.func47, Tryd.ntmps47
    go_wp2
    go_ret2
    exact ⟨rfl, rfl⟩
  · have z1 : ¬ (2 : Int) ≤ (s.size : Int) := by omega
    unfold hexPre
    clear h
    go_enter Tryd.func47, Tryd.ntmps47
    go_wp2
    go_ret2
    exact ⟨rfl, rfl⟩

def errV : Value := .tuple #[.agg #[.int .u64 0, .int .u64 0, .int .u64 0, .int .u64 0], .int .i64 3]
/-- The word of a number's text, if it is one. -/
def wordIf (o : Option Nat) : Value := match o with
  | some n => if n < 115792089237316195423570985008687907853269984665640564039457584007913129639936 then .tuple #[.agg #[.int .u64 (lim n 0), .int .u64 (lim n 1), .int .u64 (lim n 2), .int .u64 (lim n 3)], .int .i64 0] else errV
  | none => errV
def badDigits (d : List UInt8) : Prop := d = [] ∨ (d.head? = some 48 ∧ d ≠ [48])
instance (d : List UInt8) : Decidable (badDigits d) := by unfold badDigits; infer_instance
def parseV (l : List UInt8) : Value := if badDigits (restOf l) then errV else wordIf (numFrom (if isHex l then hexK else decK) 0 (restOf l))

/-- What stands behind CutPrefix. -/
def tailV (K : Kind) (d : List UInt8) : Value := if badDigits d then errV else wordIf (numFrom K 0 d)

theorem numV_cases (K : Kind) (d : List UInt8) : (∃ n, wordIf (numFrom K 0 d) = .tuple #[.agg #[.int .u64 (lim n 0), .int .u64 (lim n 1), .int .u64 (lim n 2), .int .u64 (lim n 3)], .int .i64 0] ∧ numV K d = .tuple #[.agg #[.int .u64 (lim n 0), .int .u64 (lim n 1), .int .u64 (lim n 2), .int .u64 (lim n 3)], .bool true]) ∨
    (wordIf (numFrom K 0 d) = errV ∧ numV K d = .tuple #[.agg #[.int .u64 0, .int .u64 0, .int .u64 0, .int .u64 0], .bool false]) := by
  unfold wordIf numV
  cases numFrom K 0 d with
  | none => exact .inr ⟨rfl, rfl⟩
  | some n =>
    simp only []
    by_cases h : n < 115792089237316195423570985008687907853269984665640564039457584007913129639936
    · exact .inl ⟨n, if_pos h, if_pos h⟩
    · exact .inr ⟨if_neg h, if_neg h⟩

theorem results_wordE {fn : Func} {t u : Tmp} {tmps : Array Value} {W : World} {B : Nat} {m : Nat → Int} (h : fn.results = #[ResultVar.cell t 24, ResultVar.tmp u]) (ht : tmps.getD t undef = .pointer (some ⟨B, 0, none⟩)) (hA : Arr4 W B 24 m) :
    (results fn tmps).run Tryd.prog W = .ok (.tuple #[.agg #[.int .u64 (m 0), .int .u64 (m 1), .int .u64 (m 2), .int .u64 (m 3)], tmps.getD u undef]) W := by
  have e0 := hA.cell (j := 0) (by omega)
  have e1 := hA.cell (j := 1) (by omega)
  have e2 := hA.cell (j := 2) (by omega)
  have e3 := hA.cell (j := 3) (by omega)
  simp at ht
  simp [results, h, ht, go_sem, e0, e1, e2, e3]

set_option maxRecDepth 100000 in
set_option maxHeartbeats 2000000 in
theorem parse_core (s t : ByteArray) (six : Bool) (ht : t.size ≤ 140737488355328) (hcut : SameRet Tryd.prog 47 #[.string s, .string hexPre] (.tuple #[.string t, .bool six])) :
    Ret Tryd.prog 28 #[.string s] (tailV (if six then hexK else decK) t.data.toList) := by
  intro w
  unfold hexPre at hcut
  have A0 := World.alloc_heap_new w (.cells #[.int .u64 0, .int .u64 0, .int .u64 0, .int .u64 0] 24)
  have hl : t.data.toList.length = t.size := by simp
  by_cases h0 : t.size = 0
  · have hnil : t.data.toList = [] := List.eq_nil_of_length_eq_zero (by rw [hl]; exact h0)
    have hv : tailV (if six then hexK else decK) t.data.toList = errV := by unfold tailV; rw [if_pos (.inl hnil)]
    rw [hv]
    unfold errV
    have e1 : t.toList = [] := by rw [ByteArray.toList_eq]; exact hnil
    have e2 : t.toList.isEmpty = true := by rw [e1]; rfl
    clear hv ht hl h0 hnil
    go_enter Tryd.func28, Tryd.ntmps28
    go_wp2_with fail
    refine (hcut _).mono ?_
    rintro e w1 ⟨rfl, rfl⟩
    go_wp2
    exact bodyPost_ret (results_wordE rfl rfl (m := fun _ => 0) A0) rfl ⟨rfl, (Below.refl _ _).alloc (Nat.le_refl _) _⟩
  · obtain ⟨c, r, hcr⟩ : ∃ c r, t.data.toList = c :: r := by
      cases hx : t.data.toList with
      | nil => rw [hx] at hl; simp at hl; omega
      | cons c r => exact ⟨c, r, rfl⟩
    have hlt : 0 < t.size := by omega
    have hc0 : t[0] = c := by
      have : t.data.toList[0]? = some c := by rw [hcr]; rfl
      have h2 : t.data.toList[0]? = some t[0] := by rw [List.getElem?_eq_getElem (by rw [hl]; exact hlt)]; rfl
      exact Option.some.inj (h2.symm.trans this)
    have en : ¬ t.toList = [] := by rw [ByteArray.toList_eq, hcr]; simp
    have en2 : t.toList.isEmpty = false := by rw [ByteArray.toList_eq, hcr]; rfl
    have hltI : (0 : Int) < (t.size : Int) := by omega
    by_cases hbad : c = 48 ∧ r ≠ []
    · obtain ⟨rfl, hr⟩ := hbad
      have hv : tailV (if six then hexK else decK) t.data.toList = errV := by
        unfold tailV; rw [if_pos (.inr ⟨by rw [hcr]; rfl, by rw [hcr]; simpa using hr⟩)]
      rw [hv]
      unfold errV
      have e3 : (t.toList == [48]) = false := by rw [ByteArray.toList_eq, hcr]; simpa using hr
      have e4 : ((t[0].toNat : Int) == 48) = true := by rw [hc0]; rfl
      clear hv ht hl h0 hcr hr hc0
      go_enter Tryd.func28, Tryd.ntmps28
      go_wp2_with fail
      refine (hcut _).mono ?_
      rintro e w1 ⟨rfl, rfl⟩
      go_wp2
      exact bodyPost_ret (results_wordE rfl rfl (m := fun _ => 0) A0) rfl ⟨rfl, (Below.refl _ _).alloc (Nat.le_refl _) _⟩
    · have hok : ¬ badDigits t.data.toList := by
        rintro (h | ⟨h1, h2⟩)
        · rw [hcr] at h; cases h
        · rw [hcr] at h1 h2
          simp at h1
          exact hbad ⟨h1, fun e => h2 (by rw [h1, e])⟩
      have hv : tailV (if six then hexK else decK) t.data.toList = wordIf (numFrom (if six then hexK else decK) 0 t.data.toList) := by unfold tailV; rw [if_neg hok]
      rw [hv]
      have hnum : Ret Tryd.prog (if six then 49 else 48) #[.string t] (numV (if six then hexK else decK) t.data.toList) := by
        cases six
        · exact number_dec t ht
        · exact number_hex t ht
      have htest : (((t[0].toNat : Int) == 48) = true ∧ (t.toList == [48]) = true) ∨ ((t[0].toNat : Int) == 48) = false := by
        by_cases hc48 : c = 48
        · left
          subst hc48
          have hr : r = [] := by
            cases hr : r with
            | nil => rfl
            | cons a b => exact absurd ⟨rfl, by rw [hr]; simp⟩ hbad
          refine ⟨by rw [hc0]; rfl, ?_⟩
          rw [ByteArray.toList_eq, hcr, hr]; rfl
        · right
          rw [hc0, beq_eq_false_iff_ne]
          intro e
          exact hc48 (UInt8.toNat_inj.1 (by have : c.toNat = 48 := by omega
                                            rw [this]; rfl))
      have hcases := numV_cases (if six then hexK else decK) t.data.toList
      clear hok hv hcr hl h0 hc0 hbad ht
      generalize wordIf (numFrom (if six then hexK else decK) 0 t.data.toList) = V at *
      generalize numV (if six then hexK else decK) t.data.toList = N at *
      have HN := Lib.hid hnum
      clear hnum
      rcases htest with ⟨e4, e3⟩ | e4 <;> rcases hcases with ⟨n, rfl, rfl⟩ | ⟨rfl, rfl⟩ <;> cases six
      · go_enter Tryd.func28, Tryd.ntmps28
        go_wp2_with fail
        refine (hcut _).mono ?_
        rintro e w1 ⟨rfl, rfl⟩
        go_wp2_with fail
        refine (HN.out _).mono ?_
        rintro e w1 ⟨rfl, hb1⟩
        have A4 : Arr4 w1 w.heap.size 24 (fun _ => 0) := Arr4.below (m := fun _ => 0) A0 hb1 (by simp)
        have BB := ((Below.refl _ w).alloc (Nat.le_refl _) (.cells #[.int .u64 0, .int .u64 0, .int .u64 0, .int .u64 0] 24)).trans (hb1.mono (by simp))
        have hz := BB.size
        have hz2 := A4.lt
        have c0 := A4.cell (j := 0) (by omega)
        have c1 := A4.cell (j := 1) (by omega)
        have c2 := A4.cell (j := 2) (by omega)
        have c3 := A4.cell (j := 3) (by omega)
        have f0 := A4.frozen 0
        have f1 := A4.frozen 1
        have f2 := A4.frozen 2
        have f3 := A4.frozen 3
        replace A4 := Lib.hid A4
        clear A0 hb1 HN
        go_wp2
        refine bodyPost_ret (results_wordE rfl rfl ((A4.out.store _).alloc _)) rfl ⟨rfl, ?_⟩
        (repeat (first | exact BB | refine Below.setCell ?_ (by first | omega | (simp; done) | (simp; omega)) _ | refine Below.alloc ?_ (by first | omega | (simp; done) | (simp; omega)) _ | refine Below.drew ?_))
      · go_enter Tryd.func28, Tryd.ntmps28
        go_wp2_with fail
        refine (hcut _).mono ?_
        rintro e w1 ⟨rfl, rfl⟩
        go_wp2_with fail
        refine (HN.out _).mono ?_
        rintro e w1 ⟨rfl, hb1⟩
        have A4 : Arr4 w1 w.heap.size 24 (fun _ => 0) := Arr4.below (m := fun _ => 0) A0 hb1 (by simp)
        have BB := ((Below.refl _ w).alloc (Nat.le_refl _) (.cells #[.int .u64 0, .int .u64 0, .int .u64 0, .int .u64 0] 24)).trans (hb1.mono (by simp))
        have hz := BB.size
        have hz2 := A4.lt
        have c0 := A4.cell (j := 0) (by omega)
        have c1 := A4.cell (j := 1) (by omega)
        have c2 := A4.cell (j := 2) (by omega)
        have c3 := A4.cell (j := 3) (by omega)
        have f0 := A4.frozen 0
        have f1 := A4.frozen 1
        have f2 := A4.frozen 2
        have f3 := A4.frozen 3
        replace A4 := Lib.hid A4
        clear A0 hb1 HN
        go_wp2
        refine bodyPost_ret (results_wordE rfl rfl ((A4.out.store _).alloc _)) rfl ⟨rfl, ?_⟩
        (repeat (first | exact BB | refine Below.setCell ?_ (by first | omega | (simp; done) | (simp; omega)) _ | refine Below.alloc ?_ (by first | omega | (simp; done) | (simp; omega)) _ | refine Below.drew ?_))
      · unfold errV
        go_enter Tryd.func28, Tryd.ntmps28
        go_wp2_with fail
        refine (hcut _).mono ?_
        rintro e w1 ⟨rfl, rfl⟩
        go_wp2_with fail
        refine (HN.out _).mono ?_
        rintro e w1 ⟨rfl, hb1⟩
        have A4 : Arr4 w1 w.heap.size 24 (fun _ => 0) := Arr4.below (m := fun _ => 0) A0 hb1 (by simp)
        have BB := ((Below.refl _ w).alloc (Nat.le_refl _) (.cells #[.int .u64 0, .int .u64 0, .int .u64 0, .int .u64 0] 24)).trans (hb1.mono (by simp))
        have hz := BB.size
        have hz2 := A4.lt
        have c0 := A4.cell (j := 0) (by omega)
        have c1 := A4.cell (j := 1) (by omega)
        have c2 := A4.cell (j := 2) (by omega)
        have c3 := A4.cell (j := 3) (by omega)
        have f0 := A4.frozen 0
        have f1 := A4.frozen 1
        have f2 := A4.frozen 2
        have f3 := A4.frozen 3
        replace A4 := Lib.hid A4
        clear A0 hb1 HN
        go_wp2
        refine bodyPost_ret (results_wordE rfl rfl ((Arr4.store0 A4.out).alloc _)) rfl ⟨rfl, ?_⟩
        (repeat (first | exact BB | refine Below.setCell ?_ (by first | omega | (simp; done) | (simp; omega)) _ | refine Below.alloc ?_ (by first | omega | (simp; done) | (simp; omega)) _ | refine Below.drew ?_))
      · unfold errV
        go_enter Tryd.func28, Tryd.ntmps28
        go_wp2_with fail
        refine (hcut _).mono ?_
        rintro e w1 ⟨rfl, rfl⟩
        go_wp2_with fail
        refine (HN.out _).mono ?_
        rintro e w1 ⟨rfl, hb1⟩
        have A4 : Arr4 w1 w.heap.size 24 (fun _ => 0) := Arr4.below (m := fun _ => 0) A0 hb1 (by simp)
        have BB := ((Below.refl _ w).alloc (Nat.le_refl _) (.cells #[.int .u64 0, .int .u64 0, .int .u64 0, .int .u64 0] 24)).trans (hb1.mono (by simp))
        have hz := BB.size
        have hz2 := A4.lt
        have c0 := A4.cell (j := 0) (by omega)
        have c1 := A4.cell (j := 1) (by omega)
        have c2 := A4.cell (j := 2) (by omega)
        have c3 := A4.cell (j := 3) (by omega)
        have f0 := A4.frozen 0
        have f1 := A4.frozen 1
        have f2 := A4.frozen 2
        have f3 := A4.frozen 3
        replace A4 := Lib.hid A4
        clear A0 hb1 HN
        go_wp2
        refine bodyPost_ret (results_wordE rfl rfl ((Arr4.store0 A4.out).alloc _)) rfl ⟨rfl, ?_⟩
        (repeat (first | exact BB | refine Below.setCell ?_ (by first | omega | (simp; done) | (simp; omega)) _ | refine Below.alloc ?_ (by first | omega | (simp; done) | (simp; omega)) _ | refine Below.drew ?_))
      · go_enter Tryd.func28, Tryd.ntmps28
        go_wp2_with fail
        refine (hcut _).mono ?_
        rintro e w1 ⟨rfl, rfl⟩
        go_wp2_with fail
        refine (HN.out _).mono ?_
        rintro e w1 ⟨rfl, hb1⟩
        have A4 : Arr4 w1 w.heap.size 24 (fun _ => 0) := Arr4.below (m := fun _ => 0) A0 hb1 (by simp)
        have BB := ((Below.refl _ w).alloc (Nat.le_refl _) (.cells #[.int .u64 0, .int .u64 0, .int .u64 0, .int .u64 0] 24)).trans (hb1.mono (by simp))
        have hz := BB.size
        have hz2 := A4.lt
        have c0 := A4.cell (j := 0) (by omega)
        have c1 := A4.cell (j := 1) (by omega)
        have c2 := A4.cell (j := 2) (by omega)
        have c3 := A4.cell (j := 3) (by omega)
        have f0 := A4.frozen 0
        have f1 := A4.frozen 1
        have f2 := A4.frozen 2
        have f3 := A4.frozen 3
        replace A4 := Lib.hid A4
        clear A0 hb1 HN
        go_wp2
        refine bodyPost_ret (results_wordE rfl rfl ((A4.out.store _).alloc _)) rfl ⟨rfl, ?_⟩
        (repeat (first | exact BB | refine Below.setCell ?_ (by first | omega | (simp; done) | (simp; omega)) _ | refine Below.alloc ?_ (by first | omega | (simp; done) | (simp; omega)) _ | refine Below.drew ?_))
      · go_enter Tryd.func28, Tryd.ntmps28
        go_wp2_with fail
        refine (hcut _).mono ?_
        rintro e w1 ⟨rfl, rfl⟩
        go_wp2_with fail
        refine (HN.out _).mono ?_
        rintro e w1 ⟨rfl, hb1⟩
        have A4 : Arr4 w1 w.heap.size 24 (fun _ => 0) := Arr4.below (m := fun _ => 0) A0 hb1 (by simp)
        have BB := ((Below.refl _ w).alloc (Nat.le_refl _) (.cells #[.int .u64 0, .int .u64 0, .int .u64 0, .int .u64 0] 24)).trans (hb1.mono (by simp))
        have hz := BB.size
        have hz2 := A4.lt
        have c0 := A4.cell (j := 0) (by omega)
        have c1 := A4.cell (j := 1) (by omega)
        have c2 := A4.cell (j := 2) (by omega)
        have c3 := A4.cell (j := 3) (by omega)
        have f0 := A4.frozen 0
        have f1 := A4.frozen 1
        have f2 := A4.frozen 2
        have f3 := A4.frozen 3
        replace A4 := Lib.hid A4
        clear A0 hb1 HN
        go_wp2
        refine bodyPost_ret (results_wordE rfl rfl ((A4.out.store _).alloc _)) rfl ⟨rfl, ?_⟩
        (repeat (first | exact BB | refine Below.setCell ?_ (by first | omega | (simp; done) | (simp; omega)) _ | refine Below.alloc ?_ (by first | omega | (simp; done) | (simp; omega)) _ | refine Below.drew ?_))
      · unfold errV
        go_enter Tryd.func28, Tryd.ntmps28
        go_wp2_with fail
        refine (hcut _).mono ?_
        rintro e w1 ⟨rfl, rfl⟩
        go_wp2_with fail
        refine (HN.out _).mono ?_
        rintro e w1 ⟨rfl, hb1⟩
        have A4 : Arr4 w1 w.heap.size 24 (fun _ => 0) := Arr4.below (m := fun _ => 0) A0 hb1 (by simp)
        have BB := ((Below.refl _ w).alloc (Nat.le_refl _) (.cells #[.int .u64 0, .int .u64 0, .int .u64 0, .int .u64 0] 24)).trans (hb1.mono (by simp))
        have hz := BB.size
        have hz2 := A4.lt
        have c0 := A4.cell (j := 0) (by omega)
        have c1 := A4.cell (j := 1) (by omega)
        have c2 := A4.cell (j := 2) (by omega)
        have c3 := A4.cell (j := 3) (by omega)
        have f0 := A4.frozen 0
        have f1 := A4.frozen 1
        have f2 := A4.frozen 2
        have f3 := A4.frozen 3
        replace A4 := Lib.hid A4
        clear A0 hb1 HN
        go_wp2
        refine bodyPost_ret (results_wordE rfl rfl ((Arr4.store0 A4.out).alloc _)) rfl ⟨rfl, ?_⟩
        (repeat (first | exact BB | refine Below.setCell ?_ (by first | omega | (simp; done) | (simp; omega)) _ | refine Below.alloc ?_ (by first | omega | (simp; done) | (simp; omega)) _ | refine Below.drew ?_))
      · unfold errV
        go_enter Tryd.func28, Tryd.ntmps28
        go_wp2_with fail
        refine (hcut _).mono ?_
        rintro e w1 ⟨rfl, rfl⟩
        go_wp2_with fail
        refine (HN.out _).mono ?_
        rintro e w1 ⟨rfl, hb1⟩
        have A4 : Arr4 w1 w.heap.size 24 (fun _ => 0) := Arr4.below (m := fun _ => 0) A0 hb1 (by simp)
        have BB := ((Below.refl _ w).alloc (Nat.le_refl _) (.cells #[.int .u64 0, .int .u64 0, .int .u64 0, .int .u64 0] 24)).trans (hb1.mono (by simp))
        have hz := BB.size
        have hz2 := A4.lt
        have c0 := A4.cell (j := 0) (by omega)
        have c1 := A4.cell (j := 1) (by omega)
        have c2 := A4.cell (j := 2) (by omega)
        have c3 := A4.cell (j := 3) (by omega)
        have f0 := A4.frozen 0
        have f1 := A4.frozen 1
        have f2 := A4.frozen 2
        have f3 := A4.frozen 3
        replace A4 := Lib.hid A4
        clear A0 hb1 HN
        go_wp2
        refine bodyPost_ret (results_wordE rfl rfl ((Arr4.store0 A4.out).alloc _)) rfl ⟨rfl, ?_⟩
        (repeat (first | exact BB | refine Below.setCell ?_ (by first | omega | (simp; done) | (simp; omega)) _ | refine Below.alloc ?_ (by first | omega | (simp; done) | (simp; omega)) _ | refine Below.drew ?_))

theorem parse_ret (s : ByteArray) (hs : s.size ≤ 140737488355328) : Ret Tryd.prog 28 #[.string s] (parseV s.data.toList) := by
  have hl : s.data.toList.length = s.size := by simp
  by_cases h : 2 ≤ s.size ∧ s.extract 0 2 = hexPre
  · have hx := (isHex_iff s).2 h
    have hp := parse_core s (s.extract 2 s.size) true (by rw [ByteArray.size_extract]; omega) (cut_yes s h.1 h.2)
    have e : (s.extract 2 s.size).data.toList = restOf s.data.toList := by
      rw [extract_list, List.take_of_length_le (by rw [List.length_drop, hl]; omega)]; unfold restOf; rw [if_pos hx]
    rw [e] at hp
    have e2 : parseV s.data.toList = tailV hexK (restOf s.data.toList) := by unfold parseV tailV; rw [hx]; rfl
    rw [e2]; exact hp
  · have hx : isHex s.data.toList = false := by
      cases hh : isHex s.data.toList with
      | false => rfl
      | true => exact absurd ((isHex_iff s).1 hh) h
    have hp := parse_core s s false hs (cut_no s h)
    have e : restOf s.data.toList = s.data.toList := by unfold restOf; rw [hx]; rfl
    have e2 : parseV s.data.toList = tailV decK s.data.toList := by unfold parseV tailV; rw [e, hx]; rfl
    rw [e2]; exact hp
end Go.Proofs.YtgejdkiehcpinaaDoor
