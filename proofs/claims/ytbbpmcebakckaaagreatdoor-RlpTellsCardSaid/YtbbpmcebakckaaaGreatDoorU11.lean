import Derived.Test.YtbbpmcebakckaaaGreatDoorU10
import Derived.Laws.DeepStrings4
import Derived.Test.YtbbpmcebakckaaaGreatDoorU01
import Derived.Test.YtbbpmcebakckaaaGreatDoorU09
import Derived.Laws.BytesArg
/- The reader: begin, digits, inside. Conditions: the reader lies in memory; places are in reach. -/
namespace Go.Proofs.YtbbpmcebakckaaaGreatDoor
open Go Go.RowKit
attribute [local go_sem] Oper.semAt_some Grows wide_fn

/-- A reader's cells. -/
abbrev rdC (s : ByteArray) (a m : Nat) : Array Value := #[.string s, .int .i64 (a : Int), .int .i64 (m : Int)]
/-- An error and its place, as a value. -/
abbrev fltV (x p : Nat) : Value := .iface 69 (.agg #[.int .i64 (x : Int), .int .i64 (p : Int)])

set_option maxRecDepth 100000 in
set_option maxHeartbeats 2000000 in
theorem begin_deep (s : ByteArray) (a m e d R : Nat) (w : World) (hR : Has w R 100 (rdC s a m)) (hd2 : d ≤ 1000) (hm2 : m ≤ 1000000) (hd : 16 ≤ d) :
    Calls Tryz.prog 74 #[.pointer (some ⟨R, 0, none⟩), .int .i64 (e : Int), .int .i64 (d : Int)] w fun e' w' => e' = .returned (fltV 13 a) ∧ w = w' := by
  have c0 := hR.cell 0 _ rfl
  have c1 := hR.cell 1 _ rfl
  have c2 := hR.cell 2 _ rfl
  have z2 := hR.frozen 2
  have hdI0 : (0 : Int) ≤ (d : Int) := by omega
  have hmI0 : (0 : Int) ≤ (m : Int) := by omega
  have hmI1 : (m : Int) ≤ 1000000 := by omega
  have hdI : (16 : Int) ≤ (d : Int) := by omega
  replace hR := Lib.hid hR
  go_enter Tryz.func74, Tryz.ntmps74
  go_wp2_with fail
  go_ret
  exact ⟨rfl, rfl⟩

set_option maxRecDepth 100000 in
set_option maxHeartbeats 2000000 in
theorem begin_many (s : ByteArray) (a m e d R : Nat) (w : World) (hR : Has w R 100 (rdC s a m)) (hd2 : d ≤ 1000) (hm2 : m ≤ 1000000) (hd : d < 16) (hm : 5000 ≤ m) :
    Calls Tryz.prog 74 #[.pointer (some ⟨R, 0, none⟩), .int .i64 (e : Int), .int .i64 (d : Int)] w fun e' w' => e' = .returned (fltV 2 a) ∧ w = w' := by
  have c0 := hR.cell 0 _ rfl
  have c1 := hR.cell 1 _ rfl
  have c2 := hR.cell 2 _ rfl
  have z2 := hR.frozen 2
  have hdI0 : (0 : Int) ≤ (d : Int) := by omega
  have hmI0 : (0 : Int) ≤ (m : Int) := by omega
  have hmI1 : (m : Int) ≤ 1000000 := by omega
  have hdI : ¬ (16 : Int) ≤ (d : Int) := by omega
  have hmI : (5000 : Int) ≤ (m : Int) := by omega
  replace hR := Lib.hid hR
  go_enter Tryz.func74, Tryz.ntmps74
  go_wp2_with fail
  go_ret
  exact ⟨rfl, rfl⟩

set_option maxRecDepth 100000 in
set_option maxHeartbeats 2000000 in
theorem begin_short (s : ByteArray) (a m e d R : Nat) (w : World) (hR : Has w R 100 (rdC s a m)) (hd2 : d ≤ 1000) (hm2 : m ≤ 1000000) (hd : d < 16) (hm : m < 5000) (ha : e ≤ a) :
    Calls Tryz.prog 74 #[.pointer (some ⟨R, 0, none⟩), .int .i64 (e : Int), .int .i64 (d : Int)] w fun e' w' => e' = .returned (fltV 10 a) ∧ w = w' := by
  have c0 := hR.cell 0 _ rfl
  have c1 := hR.cell 1 _ rfl
  have c2 := hR.cell 2 _ rfl
  have z2 := hR.frozen 2
  have hdI0 : (0 : Int) ≤ (d : Int) := by omega
  have hmI0 : (0 : Int) ≤ (m : Int) := by omega
  have hmI1 : (m : Int) ≤ 1000000 := by omega
  have hdI : ¬ (16 : Int) ≤ (d : Int) := by omega
  have hmI : ¬ (5000 : Int) ≤ (m : Int) := by omega
  have haI : decide (e ≤ a) = true := decide_eq_true ha
  replace hR := Lib.hid hR
  go_enter Tryz.func74, Tryz.ntmps74
  go_wp2_with fail
  go_ret
  exact ⟨rfl, rfl⟩

set_option maxRecDepth 100000 in
set_option maxHeartbeats 2000000 in
theorem begin_ok (s : ByteArray) (a m e d R : Nat) (w : World) (hR : Has w R 100 (rdC s a m)) (hd2 : d ≤ 1000) (hm2 : m ≤ 1000000) (hd : d < 16) (hm : m < 5000) (ha : a < e) :
    Calls Tryz.prog 74 #[.pointer (some ⟨R, 0, none⟩), .int .i64 (e : Int), .int .i64 (d : Int)] w fun e' w' => e' = .returned .nilIface ∧ w.setCell ⟨R, 2, none⟩ (.int .i64 ((m : Int) + 1)) = w' := by
  have c0 := hR.cell 0 _ rfl
  have c1 := hR.cell 1 _ rfl
  have c2 := hR.cell 2 _ rfl
  have z2 := hR.frozen 2
  have hdI0 : (0 : Int) ≤ (d : Int) := by omega
  have hmI0 : (0 : Int) ≤ (m : Int) := by omega
  have hmI1 : (m : Int) ≤ 1000000 := by omega
  have hdI : ¬ (16 : Int) ≤ (d : Int) := by omega
  have hmI : ¬ (5000 : Int) ≤ (m : Int) := by omega
  have haI : decide (e ≤ a) = false := by simpa using ha
  replace hR := Lib.hid hR
  go_enter Tryz.func74, Tryz.ntmps74
  go_wp2_with fail
  go_ret
  exact ⟨rfl, rfl⟩

theorem fromB_short {l : List UInt8} (h : l.length ≤ 32) : fromB l = val256 0 l := by
  unfold fromB
  rw [show l.length - 32 = 0 by omega, List.drop_zero, val256_oct]
/-- What a number reads as, where it is no int. -/
def capN (n : Nat) : Nat := if n ≤ maxI then n else maxI

theorem Has.ext {W : World} {B : Nat} {t : TypeId} {cs : Array Value} (h : Has W B t cs) (X : Ext W) (j : Nat) (v : Value) (hj : cs[j]? = some v) : X.w.cell? ⟨B, j, none⟩ = some v := (h.later X.below).cell j v hj

theorem size_list (x : ByteArray) : x.size = x.data.toList.length := by simp
theorem byte_first {x : ByteArray} {l : List UInt8} (hx : x.data.toList = l) (h : 0 < x.size) : (x[0]'h).toNat = byteAt l 0 := by
  subst hx
  unfold byteAt
  rw [List.getD_eq_getElem?_getD, List.getElem?_eq_getElem (by rw [← size_list]; exact h)]
  rfl
theorem byteAt_piece (l : List UInt8) (a n : Nat) (hn : 0 < n) : byteAt ((l.drop a).take n) 0 = byteAt l a := by
  unfold byteAt
  rw [List.getD_eq_getElem?_getD, List.getD_eq_getElem?_getD, List.getElem?_take, if_pos hn, List.getElem?_drop, Nat.add_zero]

/-- What digits answers. -/
def digsV (s : List UInt8) (a e dl : Nat) : Value :=
  if e < a + 1 + dl then .tuple #[.int .i64 0, .int .i64 0, fltV 10 a]
  else if byteAt s (a + 1) = 0 ∨ val256 0 ((s.drop (a + 1)).take dl) ≤ 55 then .tuple #[.int .i64 0, .int .i64 0, fltV 11 (a + 1)]
  else .tuple #[.int .i64 ((a + 1 + dl : Nat) : Int), .int .i64 (capN (val256 0 ((s.drop (a + 1)).take dl)) : Int), .nilIface]

set_option maxRecDepth 100000 in
set_option maxHeartbeats 4000000 in
theorem readDigits_any (s : ByteArray) (a m e dl R : Nat) (w : World) (hR : Has w R 100 (rdC s a m)) (hs : s.size ≤ 1099511627776) (he : e ≤ s.size) (ha : a < e) (hd0 : 1 ≤ dl) (hd8 : dl ≤ 8) :
    Calls Tryz.prog 94 #[.pointer (some ⟨R, 0, none⟩), .int .i64 (dl : Int), .int .i64 (e : Int)] w fun e' w' => e' = .returned (digsV s.data.toList a e dl) ∧ Below w.heap.size w w' := by
  have hmx : Tryz.prog.follows .mixedOrders = true := by kernel_rfl
  have c0 := hR.cell 0 _ rfl
  have c1 := hR.cell 1 _ rfl
  have c2 := hR.cell 2 _ rfl
  have d0 : ∀ X : Ext w, X.w.cell? ⟨R, 0, none⟩ = some (.string s) := fun X => hR.ext X 0 _ rfl
  have d1 : ∀ X : Ext w, X.w.cell? ⟨R, 1, none⟩ = some (.int .i64 (a : Int)) := fun X => hR.ext X 1 _ rfl
  have d2 : ∀ X : Ext w, X.w.cell? ⟨R, 2, none⟩ = some (.int .i64 (m : Int)) := fun X => hR.ext X 2 _ rfl
  have haI0 : (0 : Int) ≤ (a : Int) := by omega
  have haI1 : (a : Int) ≤ 1099511627776 := by omega
  have hdI0 : (1 : Int) ≤ (dl : Int) := by omega
  have hdI1 : (dl : Int) ≤ 8 := by omega
  have heI0 : (0 : Int) ≤ (e : Int) := by omega
  have heI1 : (e : Int) ≤ 1099511627776 := by omega
  have hV : digsV s.data.toList a e dl = if e < a + 1 + dl then .tuple #[.int .i64 0, .int .i64 0, fltV 10 a]
    else if byteAt s.data.toList (a + 1) = 0 ∨ val256 0 ((s.data.toList.drop (a + 1)).take dl) ≤ 55 then .tuple #[.int .i64 0, .int .i64 0, fltV 11 (a + 1)]
    else .tuple #[.int .i64 ((a + 1 + dl : Nat) : Int), .int .i64 (capN (val256 0 ((s.data.toList.drop (a + 1)).take dl)) : Int), .nilIface] := rfl
  by_cases h1 : e < a + 1 + dl
  · rw [if_pos h1] at hV
    rw [hV]
    clear hV
    have h1I : (e : Int) < (a : Int) + 1 + (dl : Int) := by omega
    have Q := Lib.hid (Below.refl w.heap.size w)
    have HR := Lib.hid hR
    replace h1 := Lib.hid h1
    clear hR hs he ha hd0 hd8
    go_enter Tryz.func94, Tryz.ntmps94
    go_wp2_with fail
    refine wp_region_quietL (C := Grows w) hmx (by kernel_rfl) (grows_refl w) ?_
    repeat (go_big_quiet_step (fail))
    refine wpQuiet_nil ?_
    rintro _ ⟨X, rfl⟩
    go_wp2_with fail
    exact bodyPost_ret (v := .tuple #[.int .i64 0, .int .i64 0, fltV 10 a]) (by simp [results, Tryz.results94, go_sem]) rfl ⟨rfl, X.below⟩
  · rw [if_neg h1] at hV
    generalize digsV s.data.toList a e dl = V at *
    have h1I : ¬ (e : Int) < (a : Int) + 1 + (dl : Int) := by omega
    obtain ⟨ds, hds⟩ : ∃ ds, (s.data.toList.drop (a + 1)).take dl = ds := ⟨_, rfl⟩
    have hex : (s.extract (a + 1) (a + 1 + dl)).data.toList = ds := by rw [extract_list, show a + 1 + dl - (a + 1) = dl by omega, hds]
    have hdl : ds.length = dl := by rw [← hds, List.length_take, List.length_drop]; simp; omega
    have hexs : (s.extract (a + 1) (a + 1 + dl)).size = dl := by rw [size_list, hex, hdl]
    have hfb := fromBytes_ret (s.extract (a + 1) (a + 1 + dl)) (by rw [hexs]; omega)
    rw [hex, fromB_short (by omega)] at hfb
    have hvlt : val256 0 ds < 256 ^ 8 := Nat.lt_of_lt_of_le (val256_lt ds) (by rw [hdl]; exact Nat.pow_le_pow_right (by decide) hd8)
    have hint := int_ret (val256 0 ds) (by unfold W256; omega)
    have hby : ∀ h, (((s.extract (a + 1) (a + 1 + dl))[0]'h).toNat : Nat) = byteAt s.data.toList (a + 1) := by
      intro h
      rw [byte_first hex h, ← hds, byteAt_piece _ _ _ (by omega)]
    rw [hds] at hV
    clear hds hex hdl
    obtain ⟨bt, hbt⟩ : ∃ bt, byteAt s.data.toList (a + 1) = bt := ⟨_, rfl⟩
    rw [hbt] at hby hV
    obtain ⟨n, hn⟩ : ∃ n, val256 0 ds = n := ⟨_, rfl⟩
    rw [hn] at hfb hint hvlt hV
    replace hV := Lib.hid hV
    have t1 : ((a : Int) + 1).toNat = a + 1 := by omega
    have t2 : ((a : Int) + 1 + (dl : Int)).toNat = a + 1 + dl := by omega
    have hb1 : (a : Int) + 1 + (dl : Int) ≤ (s.size : Int) := by omega
    have hsI : (s.size : Int) ≤ 1099511627776 := by omega
    have hsl : ∀ W : World, (Instr.slice 9 (.string s) (some (.int .i64 ((a : Int) + 1))) (some (.int .i64 ((a : Int) + 1 + (dl : Int)))) none).run Tryz.prog W = .ok (.string (s.extract (a + 1) (a + 1 + dl))) W := fun W => by
      rw [run_slice_string_if W _ _ _ _ _ _ Tryz.underlying9, if_pos (by omega), if_pos (by omega), t1, t2]
    have HR := Lib.hid hR
    generalize s.extract (a + 1) (a + 1 + dl) = ex at *
    have hn0 : (0 : Int) ≤ (n : Int) := by omega
    have HF := Lib.hid hfb
    have HI := Lib.hid hint
    have HB := Lib.hid hby
    have hcast := Lib.hid (show ((a + 1 + dl : Nat) : Int) = (a : Int) + 1 + (dl : Int) ∧ ((a + 1 : Nat) : Int) = (a : Int) + 1 from ⟨by omega, by omega⟩)
    have hbd := Lib.hid (And.intro hs (And.intro he (And.intro h1 hvlt)))
    clear hR hfb hint hby hn hs he ha hd0 hd8 h1 hbt hvlt
    go_enter Tryz.func94, Tryz.ntmps94
    go_wp2_with fail
    refine wp_region_quietL (C := Grows w) hmx (by kernel_rfl) (grows_refl w) ?_
    repeat (go_big_quiet_step (fail))
    refine wpQuiet_nil ?_
    rintro _ ⟨X, rfl⟩
    have Q := Lib.hid X.below
    have hx0 : 0 < ex.size := by omega
    have hbI : (((ex[0]'hx0).toNat : Nat) : Int) = (bt : Int) := by rw [HB.out hx0]
    have hcap := Lib.hid (show capN n = if n ≤ maxI then n else maxI from rfl)
    have hmx2 := Lib.hid (show maxI = 4611686018427387903 from rfl)
    clear d0 d1 d2 c0 c1 c2 hsl HB
    go_wp2_with fail
    refine (HF.out _).mono ?_
    rintro _ W2 ⟨rfl, q⟩
    replace Q := Lib.hid (Q.out.trans (q.mono Q.out.size))
    clear q HF
    go_wp2_with fail
    refine (HI.out _).mono ?_
    rintro _ W3 ⟨rfl, q⟩
    replace Q := Lib.hid (Q.out.trans (q.mono Q.out.size))
    clear q HI
    unfold intV
    have fin1 : ∀ (Y : Ext W3), (bt = 0 ∨ n ≤ 55) → (Ending.returned (.tuple #[.int .i64 0, .int .i64 0, fltV 11 (a + 1)]) = Ending.returned V ∧ Below w.heap.size w Y.w) := fun Y h => ⟨by rw [hV.out, if_pos h], Q.out.trans (Y.below.mono Q.out.size)⟩
    replace fin1 := Lib.hid fin1
    have e1 : ∀ Y : Ext W3, Y.w.cell? ⟨R, 1, none⟩ = some (.int .i64 (a : Int)) := fun Y => (HR.out.later (Q.out.trans (Y.below.mono Q.out.size) |>.mono (Nat.le_refl _))).cell 1 _ rfl
    by_cases hle : n ≤ maxI
    · rw [if_pos hle]
      have hnI : (n : Int) ≤ 4611686018427387903 := by have := hmx2.out; omega
      have hcN := Lib.hid (show capN n = n by rw [hcap.out, if_pos hle])
      replace hle := Lib.hid hle
      by_cases hz : bt = 0
      · have hzI : (bt : Int) = 0 := by omega
        have hzH := Lib.hid hz
        clear hz
        go_wp2_with fail
        refine wp_region_quietL (C := Grows W3) hmx (by kernel_rfl) (grows_refl W3) ?_
        repeat (go_big_quiet_step (fail))
        refine wpQuiet_nil ?_
        rintro _ ⟨Y, rfl⟩
        go_wp2_with fail
        exact bodyPost_ret (v := .tuple #[.int .i64 0, .int .i64 0, fltV 11 (a + 1)]) (by simp [results, Tryz.results94, go_sem]) rfl (fin1.out Y (.inl hzH.out))
      · have hzI : ((bt : Int) == 0) = false := by simpa using hz
        by_cases h55 : n ≤ 55
        · have h55I : decide ((n : Int) ≤ 55) = true := decide_eq_true (by omega)
          have h55H := Lib.hid h55
          clear h55
          replace hz := Lib.hid hz
          go_wp2_with fail
          refine wp_region_quietL (C := Grows W3) hmx (by kernel_rfl) (grows_refl W3) ?_
          repeat (go_big_quiet_step (fail))
          refine wpQuiet_nil ?_
          rintro _ ⟨Y, rfl⟩
          go_wp2_with fail
          exact bodyPost_ret (v := .tuple #[.int .i64 0, .int .i64 0, fltV 11 (a + 1)]) (by simp [results, Tryz.results94, go_sem]) rfl (fin1.out Y (.inr h55H.out))
        · have h55I : decide ((n : Int) ≤ 55) = false := decide_eq_false (by omega)
          have hno := Lib.hid (show ¬ (bt = 0 ∨ n ≤ 55) from fun h => h.elim hz h55)
          replace hz := Lib.hid hz
          replace h55 := Lib.hid h55
          go_wp2_with fail
          exact bodyPost_ret (v := .tuple #[.int .i64 ((a : Int) + 1 + (dl : Int)), .int .i64 (n : Int), .nilIface]) (by simp [results, Tryz.results94, go_sem]) rfl ⟨by rw [hV.out, if_neg hno.out, hcN.out, hcast.out.1], Q.out⟩
    · rw [if_neg hle]
      have hcN := Lib.hid (show capN n = maxI by rw [hcap.out, if_neg hle])
      have h55n := Lib.hid (show ¬ n ≤ 55 by have := hmx2.out; omega)
      replace hle := Lib.hid hle
      by_cases hz : bt = 0
      · have hzI : (bt : Int) = 0 := by omega
        have hzH := Lib.hid hz
        clear hz
        go_wp2_with fail
        refine wp_region_quietL (C := Grows W3) hmx (by kernel_rfl) (grows_refl W3) ?_
        repeat (go_big_quiet_step (fail))
        refine wpQuiet_nil ?_
        rintro _ ⟨Y, rfl⟩
        go_wp2_with fail
        exact bodyPost_ret (v := .tuple #[.int .i64 0, .int .i64 0, fltV 11 (a + 1)]) (by simp [results, Tryz.results94, go_sem]) rfl (fin1.out Y (.inl hzH.out))
      · have hzI : ((bt : Int) == 0) = false := by simpa using hz
        have hno := Lib.hid (show ¬ (bt = 0 ∨ n ≤ 55) from fun h => h.elim hz h55n.out)
        replace hz := Lib.hid hz
        go_wp2_with fail
        exact bodyPost_ret (v := .tuple #[.int .i64 ((a : Int) + 1 + (dl : Int)), .int .i64 4611686018427387903, .nilIface]) (by simp [results, Tryz.results94, go_sem]) rfl ⟨by rw [hV.out, if_neg hno.out, hcN.out, hcast.out.1, hmx2.out]; rfl, Q.out⟩
end Go.Proofs.YtbbpmcebakckaaaGreatDoor

/- The reader: inside. Conditions: the reader lies in memory; places are in reach. -/
namespace Go.Proofs.YtbbpmcebakckaaaGreatDoor
open Go Go.RowKit
attribute [local go_sem] Oper.semAt_some Grows wide_fn

/-- What inside answers. -/
def insV : Rd Nat → Value
  | .ok n fr _ => .tuple #[.agg #[.int .i64 (fr : Int), .int .i64 ((fr + n : Nat) : Int)], .nilIface]
  | .no x p => .tuple #[.agg #[.int .i64 0, .int .i64 0], fltV x p]

theorem insV_ok (n fr : Nat) : insV (.ok n fr 0) = .tuple #[.agg #[.int .i64 (fr : Int), .int .i64 ((fr : Int) + (n : Int))], .nilIface] := by
  show Value.tuple #[.agg #[.int .i64 (fr : Int), .int .i64 ((fr + n : Nat) : Int)], .nilIface] = _
  rw [Int.natCast_add]
theorem insV_no (x p : Nat) : insV (.no x p) = .tuple #[.agg #[.int .i64 0, .int .i64 0], fltV x p] := rfl

set_option maxRecDepth 100000 in
set_option maxHeartbeats 4000000 in
theorem inside_any (s : ByteArray) (a m e told R : Nat) (w : World) (hR : Has w R 100 (rdC s a m)) (hs : s.size ≤ 1099511627776) (he : e ≤ s.size) (ha : a < e) (ht : told ≤ 63) :
    Calls Tryz.prog 86 #[.pointer (some ⟨R, 0, none⟩), .int .i64 (told : Int), .int .i64 (e : Int)] w fun e' w' => e' = .returned (insV (rdHead s.data.toList told e a)) ∧ Below w.heap.size w w' := by
  have hmx : Tryz.prog.follows .mixedOrders = true := by kernel_rfl
  obtain ⟨r, hr⟩ : ∃ r, rdHead s.data.toList told e a = r := ⟨_, rfl⟩
  rw [hr]
  unfold rdHead at hr
  have LS := Has.new w 154 #[.int .i64 0, .int .i64 0]
  have LR := hR.alloc (.cells #[.int .i64 0, .int .i64 0] 154)
  have Q := (Below.refl w.heap.size w).alloc (Nat.le_refl _) (.cells #[.int .i64 0, .int .i64 0] 154)
  have hRlt := hR.lt
  obtain ⟨W1, hW1⟩ : ∃ W1, w.alloc (.cells #[.int .i64 0, .int .i64 0] 154) = W1 := ⟨_, rfl⟩
  rw [hW1] at LS LR Q
  have c0 := LR.cell 0 (.string s) rfl
  have c1 := LR.cell 1 (.int .i64 (a : Int)) rfl
  have c2 := LR.cell 2 (.int .i64 (m : Int)) rfl
  have haI0 : (0 : Int) ≤ (a : Int) := by omega
  have haI1 : (a : Int) ≤ 1099511627776 := by omega
  have htI0 : (0 : Int) ≤ (told : Int) := by omega
  have htI1 : (told : Int) ≤ 63 := by omega
  have heI0 : (0 : Int) ≤ (e : Int) := by omega
  have heI1 : (e : Int) ≤ 1099511627776 := by omega
  by_cases h55 : told ≤ 55
  · rw [if_pos h55] at hr
    have h55I : ¬ (55 : Int) < (told : Int) := by omega
    by_cases hfit : a + 1 + told ≤ e
    · rw [if_pos hfit] at hr
      have hfI : ¬ (e : Int) - ((a : Int) + 1) < (told : Int) := by omega
      have hV := insV_ok told (a + 1)
      rw [hr, show ((a + 1 : Nat) : Int) = (a : Int) + 1 by omega] at hV
      replace hV := Lib.hid hV
      generalize insV r = V at *
      have f0 := LS.frozen 0
      have f1 := LS.frozen 1
      have x0 := LS.cell 0 _ rfl
      have x1 := LS.cell 1 _ rfl
      have S := Lib.hid ((LS.set 0 (.int .i64 ((a : Int) + 1))).set 1 (.int .i64 ((a : Int) + 1 + (told : Int))))
      replace LS := Lib.hid LS
      replace LR := Lib.hid LR
      replace Q := Lib.hid Q
      clear hr hR hs he ha ht h55 hfit
      go_enter Tryz.func86, Tryz.ntmps86
      go_wp2_with fail
      have z0 := S.out.cell 0 _ rfl
      have z1 := S.out.cell 1 _ rfl
      exact bodyPost_ret (v := .tuple #[.agg #[.int .i64 ((a : Int) + 1), .int .i64 ((a : Int) + 1 + (told : Int))], .nilIface]) (by simp [results, Tryz.results86, go_sem, z0, z1]) rfl ⟨by rw [hV.out], (Q.out.setCell (by simp) _).setCell (by simp) _⟩

    · rw [if_neg hfit] at hr
      have hfI : (e : Int) - ((a : Int) + 1) < (told : Int) := by omega
      have hV := Lib.hid (show insV r = .tuple #[.agg #[.int .i64 0, .int .i64 0], fltV 10 a] by rw [← hr]; rfl)
      generalize insV r = V at *
      replace LS := Lib.hid LS
      replace LR := Lib.hid LR
      replace Q := Lib.hid Q
      clear hr hR hs he ha ht h55 hfit
      go_enter Tryz.func86, Tryz.ntmps86
      go_wp2_with fail
      clear c0 c1 c2 hW1
      refine wp_region_ghost [some (.agg #[.int .i64 0, .int .i64 0]), some (.pointer (some ⟨R, 0, none⟩)), some (.pointer (some ⟨R, 0, none⟩)), some (.pointer (some ⟨R, 1, none⟩)), some (.int .i64 (a : Int)), some (.agg #[.int .i64 10, .int .i64 (a : Int)]), some (fltV 10 a), none, some (fltV 10 a)] [[], [], [1], [1, 2], [1, 2, 3], [1, 2, 3, 4], [1, 2, 3, 4, 5], [0], [1, 2, 3, 4, 5, 6]]
        (fun _ _ y => Below w.heap.size w y ∧ Has y w.heap.size 154 #[.int .i64 0, .int .i64 0] ∧ Has y R 100 (rdC s a m))
        (by kernel_rfl) (by kernel_rfl) (by kernel_rfl) ?_ ?_ ?_ ?_
      · rintro f g' wa wb ⟨h1, h2, h3⟩ hb
        exact ⟨h1.trans (hb.mono h1.size), h2.later hb, h3.later hb⟩
      · intro f f' g1 g1' wa h
        exact id
      · exact ⟨Q.out.drew, LS.out, LR.out⟩
      rintro f g' y ⟨h1, h2, h3⟩ Dn
      have c0 := h3.cell 1 (.int .i64 (a : Int)) rfl
      have f0 := h2.frozen 0
      have x0 := h2.cell 0 _ rfl
      have f1 := h2.frozen 1
      have x1 := h2.cell 1 _ rfl
      replace h1 := Lib.hid h1
      replace h2 := Lib.hid h2
      replace h3 := Lib.hid h3
      refine GW.known _ rfl (fun hd' hf => ?_) ?_
      · go_wp2
        exact ⟨rfl, rfl, Below.refl _ _⟩
      simp only [Act.put, List.setIfInBounds_toArray, List.set_cons_succ, List.set_cons_zero]
      refine GW.known _ rfl (fun hd' hf => ?_) ?_
      · go_wp2
        exact ⟨rfl, rfl, Below.refl _ _⟩
      simp only [Act.put, List.setIfInBounds_toArray, List.set_cons_succ, List.set_cons_zero]
      refine GW.known _ rfl (fun hd' hf => ?_) ?_
      · go_wp2
        exact ⟨rfl, rfl, Below.refl _ _⟩
      simp only [Act.put, List.setIfInBounds_toArray, List.set_cons_succ, List.set_cons_zero]
      refine GW.known _ rfl (fun hd' hf => ?_) ?_
      · go_wp2
        exact ⟨rfl, rfl, Below.refl _ _⟩
      simp only [Act.put, List.setIfInBounds_toArray, List.set_cons_succ, List.set_cons_zero]
      refine GW.known _ rfl (fun hd' hf => ?_) ?_
      · go_wp2
        exact ⟨rfl, rfl, Below.refl _ _⟩
      simp only [Act.put, List.setIfInBounds_toArray, List.set_cons_succ, List.set_cons_zero]
      refine GW.known _ rfl (fun hd' hf => ?_) ?_
      · go_wp2
        exact ⟨rfl, rfl, Below.refl _ _⟩
      simp only [Act.put, List.setIfInBounds_toArray, List.set_cons_succ, List.set_cons_zero]
      refine GW.known _ rfl (fun hd' hf => ?_) ?_
      · go_wp2
        exact ⟨rfl, rfl, Below.refl _ _⟩
      simp only [Act.put, List.setIfInBounds_toArray, List.set_cons_succ, List.set_cons_zero]
      refine GW.open rfl (fun hd' hf => ?_) ?_
      · go_wp2
        exact ⟨rfl, ((h1.out.setCell (p := ⟨w.heap.size, 0, none⟩) (by simp) (.int .i64 0)).setCell (p := ⟨w.heap.size, 1, none⟩) (by simp) (.int .i64 0)), ((h2.out.set 0 (.int .i64 0)).set 1 (.int .i64 0)), ((h3.out.other (p := ⟨w.heap.size, 0, none⟩) (by simp; omega) (.int .i64 0)).other (p := ⟨w.heap.size, 1, none⟩) (by simp; omega) (.int .i64 0))⟩
      simp only [Act.put, List.setIfInBounds_toArray, List.set_cons_succ, List.set_cons_zero]
      refine GW.known _ rfl (fun hd' hf => ?_) ?_
      · go_wp2
        exact ⟨rfl, rfl, Below.refl _ _⟩
      simp only [Act.put, List.setIfInBounds_toArray, List.set_cons_succ, List.set_cons_zero]
      refine GW.nil (fun _ => ?_)
      have z0 := h2.out.cell 0 _ rfl
      have z1 := h2.out.cell 1 _ rfl
      go_wp2_with fail
      exact bodyPost_ret (v := .tuple #[.agg #[.int .i64 0, .int .i64 0], fltV 10 a]) (by simp [results, Tryz.results86, go_sem, z0, z1]) rfl ⟨by rw [hV.out], h1.out⟩

  · rw [if_neg h55] at hr
    have h55I : (55 : Int) < (told : Int) := by omega
    have HD := Lib.hid (readDigits_any s a m e (told - 55) R W1 LR hs he ha (by omega) (by omega))
    rw [show ((told - 55 : Nat) : Int) = (told : Int) - 55 by omega] at HD
    have hdV : digsV s.data.toList a e (told - 55) = if e < a + 1 + (told - 55) then .tuple #[.int .i64 0, .int .i64 0, fltV 10 a]
      else if byteAt s.data.toList (a + 1) = 0 ∨ val256 0 ((s.data.toList.drop (a + 1)).take (told - 55)) ≤ 55 then .tuple #[.int .i64 0, .int .i64 0, fltV 11 (a + 1)]
      else .tuple #[.int .i64 ((a + 1 + (told - 55) : Nat) : Int), .int .i64 (capN (val256 0 ((s.data.toList.drop (a + 1)).take (told - 55))) : Int), .nilIface] := rfl
    by_cases h1 : e < a + 1 + (told - 55)
    · rw [if_pos h1] at hr hdV
      rw [hdV] at HD
      have hV := Lib.hid (show insV r = .tuple #[.agg #[.int .i64 0, .int .i64 0], fltV 10 a] by rw [← hr]; rfl)
      generalize insV r = V at *
      replace LS := Lib.hid LS
      replace LR := Lib.hid LR
      replace Q := Lib.hid Q
      clear hr hR hs he ha ht h55 h1 hdV
      go_enter Tryz.func86, Tryz.ntmps86
      go_wp2_with fail
      refine HD.out.mono ?_
      rintro _ W2 ⟨rfl, q⟩
      have LS2 := LS.out.later q
      replace Q := Lib.hid (Q.out.trans (q.mono Q.out.size))
      clear c0 c1 c2 hW1 HD q
      have f0 := LS2.frozen 0
      have f1 := LS2.frozen 1
      have x0 := LS2.cell 0 _ rfl
      have x1 := LS2.cell 1 _ rfl
      have S := Lib.hid ((LS2.set 0 (.int .i64 0)).set 1 (.int .i64 0))
      replace LS2 := Lib.hid LS2
      go_wp2_with fail
      have z0 := S.out.cell 0 _ rfl
      have z1 := S.out.cell 1 _ rfl
      exact bodyPost_ret (v := .tuple #[.agg #[.int .i64 0, .int .i64 0], fltV 10 a]) (by simp [results, Tryz.results86, go_sem, z0, z1]) rfl ⟨by rw [hV.out], (Q.out.setCell (by simp) _).setCell (by simp) _⟩
    · rw [if_neg h1] at hr hdV
      simp only at hr
      by_cases h2 : byteAt s.data.toList (a + 1) = 0 ∨ val256 0 ((s.data.toList.drop (a + 1)).take (told - 55)) ≤ 55
      · rw [if_pos h2] at hr hdV
        rw [hdV] at HD
        have hV := Lib.hid (show insV r = .tuple #[.agg #[.int .i64 0, .int .i64 0], fltV 11 (a + 1)] by rw [← hr]; rfl)
        generalize insV r = V at *
        replace LS := Lib.hid LS
        replace LR := Lib.hid LR
        replace Q := Lib.hid Q
        clear hr hR hs he ha ht h55 h1 hdV h2
        go_enter Tryz.func86, Tryz.ntmps86
        go_wp2_with fail
        refine HD.out.mono ?_
        rintro _ W2 ⟨rfl, q⟩
        have LS2 := LS.out.later q
        replace Q := Lib.hid (Q.out.trans (q.mono Q.out.size))
        clear c0 c1 c2 hW1 HD q
        have f0 := LS2.frozen 0
        have f1 := LS2.frozen 1
        have x0 := LS2.cell 0 _ rfl
        have x1 := LS2.cell 1 _ rfl
        have S := Lib.hid ((LS2.set 0 (.int .i64 0)).set 1 (.int .i64 0))
        replace LS2 := Lib.hid LS2
        go_wp2_with fail
        have z0 := S.out.cell 0 _ rfl
        have z1 := S.out.cell 1 _ rfl
        exact bodyPost_ret (v := .tuple #[.agg #[.int .i64 0, .int .i64 0], fltV 11 (a + 1)]) (by simp [results, Tryz.results86, go_sem, z0, z1]) rfl ⟨by rw [hV.out], (Q.out.setCell (by simp) _).setCell (by simp) _⟩
      · rw [if_neg h2] at hr hdV
        rw [hdV] at HD
        obtain ⟨n, hn⟩ : ∃ n, val256 0 ((s.data.toList.drop (a + 1)).take (told - 55)) = n := ⟨_, rfl⟩
        rw [hn] at hr HD
        obtain ⟨fr, hfr⟩ : ∃ fr, a + 1 + (told - 55) = fr := ⟨_, rfl⟩
        rw [hfr] at hr HD h1
        have hfrI0 : (0 : Int) ≤ (fr : Int) := by omega
        have hfrI1 : (fr : Int) ≤ (e : Int) := by omega
        have hcN : capN n = if n ≤ maxI then n else maxI := rfl
        have hmI : maxI = 4611686018427387903 := rfl
        by_cases hfit : fr + n ≤ e
        · rw [if_pos hfit] at hr
          rw [if_pos (by omega)] at hcN
          rw [hcN] at HD
          have hfI : ¬ (e : Int) - (fr : Int) < (n : Int) := by omega
          have hnI : (n : Int) ≤ 1099511627776 := by omega
          have hnI0 : (0 : Int) ≤ (n : Int) := by omega
          have hV := insV_ok n fr
          rw [hr] at hV
          replace hV := Lib.hid hV
          generalize insV r = V at *
          replace LS := Lib.hid LS
          replace LR := Lib.hid LR
          replace Q := Lib.hid Q
          clear hr hR hs he ha ht h55 h1 hdV h2 hn hfr hcN hmI hfit
          go_enter Tryz.func86, Tryz.ntmps86
          go_wp2_with fail
          refine HD.out.mono ?_
          rintro _ W2 ⟨rfl, q⟩
          have LS2 := LS.out.later q
          replace Q := Lib.hid (Q.out.trans (q.mono Q.out.size))
          clear c0 c1 c2 hW1 HD q
          have f0 := LS2.frozen 0
          have f1 := LS2.frozen 1
          have x0 := LS2.cell 0 _ rfl
          have x1 := LS2.cell 1 _ rfl
          have S := Lib.hid ((LS2.set 0 (.int .i64 (fr : Int))).set 1 (.int .i64 ((fr : Int) + (n : Int))))
          replace LS2 := Lib.hid LS2
          go_wp2_with fail
          have z0 := S.out.cell 0 _ rfl
          have z1 := S.out.cell 1 _ rfl
          exact bodyPost_ret (v := .tuple #[.agg #[.int .i64 ((fr : Int)), .int .i64 ((fr : Int) + (n : Int))], .nilIface]) (by simp [results, Tryz.results86, go_sem, z0, z1]) rfl ⟨by rw [hV.out], (Q.out.setCell (by simp) _).setCell (by simp) _⟩

        · rw [if_neg hfit] at hr
          obtain ⟨c, hc⟩ : ∃ c, capN n = c := ⟨_, rfl⟩
          rw [hc] at HD hcN
          have hcI : (e : Int) - (fr : Int) < (c : Int) := by
            by_cases hle : n ≤ maxI
            · rw [if_pos hle] at hcN; omega
            · rw [if_neg hle] at hcN; omega
          have hcI2 : (c : Int) ≤ 4611686018427387903 := by
            by_cases hle : n ≤ maxI
            · rw [if_pos hle] at hcN; omega
            · rw [if_neg hle] at hcN; omega
          have hV := Lib.hid (show insV r = .tuple #[.agg #[.int .i64 0, .int .i64 0], fltV 10 a] by rw [← hr]; rfl)
          generalize insV r = V at *
          replace LS := Lib.hid LS
          replace LR := Lib.hid LR
          replace Q := Lib.hid Q
          clear hr hR hs he ha ht h55 h1 hdV h2 hn hfr hcN hmI hfit hc
          go_enter Tryz.func86, Tryz.ntmps86
          go_wp2_with fail
          refine HD.out.mono ?_
          rintro _ W2 ⟨rfl, q⟩
          replace LS := Lib.hid (LS.out.later q)
          replace LR := Lib.hid (LR.out.later q)
          replace Q := Lib.hid (Q.out.trans (q.mono Q.out.size))
          clear c0 c1 c2 hW1 HD q
          go_wp2_with fail
          refine wp_region_ghost [some (.agg #[.int .i64 0, .int .i64 0]), some (.pointer (some ⟨R, 0, none⟩)), some (.pointer (some ⟨R, 0, none⟩)), some (.pointer (some ⟨R, 1, none⟩)), some (.int .i64 (a : Int)), some (.agg #[.int .i64 10, .int .i64 (a : Int)]), some (fltV 10 a), none, some (fltV 10 a)] [[], [], [1], [1, 2], [1, 2, 3], [1, 2, 3, 4], [1, 2, 3, 4, 5], [0], [1, 2, 3, 4, 5, 6]]
            (fun _ _ y => Below w.heap.size w y ∧ Has y w.heap.size 154 #[.int .i64 0, .int .i64 0] ∧ Has y R 100 (rdC s a m))
            (by kernel_rfl) (by kernel_rfl) (by kernel_rfl) ?_ ?_ ?_ ?_
          · rintro f g' wa wb ⟨h1, h2, h3⟩ hb
            exact ⟨h1.trans (hb.mono h1.size), h2.later hb, h3.later hb⟩
          · intro f f' g1 g1' wa h
            exact id
          · exact ⟨Q.out.drew, LS.out, LR.out⟩
          rintro f g' y ⟨h1, h2, h3⟩ Dn
          have c0 := h3.cell 1 (.int .i64 (a : Int)) rfl
          have f0 := h2.frozen 0
          have x0 := h2.cell 0 _ rfl
          have f1 := h2.frozen 1
          have x1 := h2.cell 1 _ rfl
          replace h1 := Lib.hid h1
          replace h2 := Lib.hid h2
          replace h3 := Lib.hid h3
          refine GW.known _ rfl (fun hd' hf => ?_) ?_
          · go_wp2
            exact ⟨rfl, rfl, Below.refl _ _⟩
          simp only [Act.put, List.setIfInBounds_toArray, List.set_cons_succ, List.set_cons_zero]
          refine GW.known _ rfl (fun hd' hf => ?_) ?_
          · go_wp2
            exact ⟨rfl, rfl, Below.refl _ _⟩
          simp only [Act.put, List.setIfInBounds_toArray, List.set_cons_succ, List.set_cons_zero]
          refine GW.known _ rfl (fun hd' hf => ?_) ?_
          · go_wp2
            exact ⟨rfl, rfl, Below.refl _ _⟩
          simp only [Act.put, List.setIfInBounds_toArray, List.set_cons_succ, List.set_cons_zero]
          refine GW.known _ rfl (fun hd' hf => ?_) ?_
          · go_wp2
            exact ⟨rfl, rfl, Below.refl _ _⟩
          simp only [Act.put, List.setIfInBounds_toArray, List.set_cons_succ, List.set_cons_zero]
          refine GW.known _ rfl (fun hd' hf => ?_) ?_
          · go_wp2
            exact ⟨rfl, rfl, Below.refl _ _⟩
          simp only [Act.put, List.setIfInBounds_toArray, List.set_cons_succ, List.set_cons_zero]
          refine GW.known _ rfl (fun hd' hf => ?_) ?_
          · go_wp2
            exact ⟨rfl, rfl, Below.refl _ _⟩
          simp only [Act.put, List.setIfInBounds_toArray, List.set_cons_succ, List.set_cons_zero]
          refine GW.known _ rfl (fun hd' hf => ?_) ?_
          · go_wp2
            exact ⟨rfl, rfl, Below.refl _ _⟩
          simp only [Act.put, List.setIfInBounds_toArray, List.set_cons_succ, List.set_cons_zero]
          refine GW.open rfl (fun hd' hf => ?_) ?_
          · go_wp2
            exact ⟨rfl, ((h1.out.setCell (p := ⟨w.heap.size, 0, none⟩) (by simp) (.int .i64 0)).setCell (p := ⟨w.heap.size, 1, none⟩) (by simp) (.int .i64 0)), ((h2.out.set 0 (.int .i64 0)).set 1 (.int .i64 0)), ((h3.out.other (p := ⟨w.heap.size, 0, none⟩) (by simp; omega) (.int .i64 0)).other (p := ⟨w.heap.size, 1, none⟩) (by simp; omega) (.int .i64 0))⟩
          simp only [Act.put, List.setIfInBounds_toArray, List.set_cons_succ, List.set_cons_zero]
          refine GW.known _ rfl (fun hd' hf => ?_) ?_
          · go_wp2
            exact ⟨rfl, rfl, Below.refl _ _⟩
          simp only [Act.put, List.setIfInBounds_toArray, List.set_cons_succ, List.set_cons_zero]
          refine GW.nil (fun _ => ?_)
          have z0 := h2.out.cell 0 _ rfl
          have z1 := h2.out.cell 1 _ rfl
          go_wp2_with fail
          exact bodyPost_ret (v := .tuple #[.agg #[.int .i64 0, .int .i64 0], fltV 10 a]) (by simp [results, Tryz.results86, go_sem, z0, z1]) rfl ⟨by rw [hV.out], h1.out⟩

end Go.Proofs.YtbbpmcebakckaaaGreatDoor

/- Heads. Conditions: sizes below 2^62. -/
namespace Go.Proofs.YtbbpmcebakckaaaGreatDoor
open Go Go.RowKit
attribute [local go_sem] Oper.semAt_some Grows wide_fn

theorem itemField1 (l : Bool) (s : ByteArray) (a : Option Addr) (n c : Nat) (W : World) : (Instr.field 29 (.agg #[.bool l, .string s, .slice a n c]) 1).run Tryz.prog W = .ok (.string s) W := by
  have u := Tryz.underlying29
  have a3 := Tryz.isAgg9
  unfold Instr.field
  simp only [Sem.run_bind, run_underlying u, Result.andThen_ok]
  simp [go_sem, part, asAgg, a3]
set_option maxRecDepth 100000 in
set_option maxHeartbeats 2000000 in
theorem bare_any (l : List UInt8) (hl : l.length ≤ 140737488355328) (w : World) : Calls Tryz.prog 70 #[strV l] w fun e w' => e = .returned (.bool (bareB l)) ∧ w = w' := by
  match l with
  | [] =>
    go_enter Tryz.func70, Tryz.ntmps70
    go_wp2_with fail
    go_ret
    exact ⟨rfl, rfl⟩
  | [c] =>
    have hs : (⟨#[c]⟩ : ByteArray).size = 1 := rfl
    have hv : ∀ h, ((⟨#[c]⟩ : ByteArray)[0]'h) = c := fun h => rfl
    have hB : Hid (bareB [c] = decide (c.toNat < 128)) := Lib.hid rfl
    have hc := c.toNat_lt
    by_cases h8 : c.toNat < 128
    · have h8' : ((c.toNat : Nat) : Int) < 128 := by omega
      have hR := Lib.hid (show bareB [c] = true by rw [hB.out]; simpa using h8)
      clear hB hc
      replace h8 := Lib.hid h8
      show Calls _ _ #[.string ⟨#[c]⟩] _ _
      generalize (⟨#[c]⟩ : ByteArray) = s at *
      go_enter Tryz.func70, Tryz.ntmps70
      go_wp2_with fail
      go_ret
      exact ⟨by rw [hR.out]; rfl, rfl⟩
    · have h8' : ¬ ((c.toNat : Nat) : Int) < 128 := by omega
      have hR := Lib.hid (show bareB [c] = false by rw [hB.out]; simpa using h8)
      clear hB hc
      replace h8 := Lib.hid h8
      show Calls _ _ #[.string ⟨#[c]⟩] _ _
      generalize (⟨#[c]⟩ : ByteArray) = s at *
      go_enter Tryz.func70, Tryz.ntmps70
      go_wp2_with fail
      go_ret
      exact ⟨by rw [hR.out]; rfl, rfl⟩
  | c :: d :: r =>
    have hs : (⟨(c :: d :: r).toArray⟩ : ByteArray).size = r.length + 2 := rfl
    have hR := Lib.hid (show bareB (c :: d :: r) = false from rfl)
    have hl2 : r.length ≤ 140737488355328 := by simp at hl; omega
    clear hl
    show Calls _ _ #[.string ⟨(c :: d :: r).toArray⟩] _ _
    generalize (⟨(c :: d :: r).toArray⟩ : ByteArray) = s at *
    have hs1 : ¬ ((s.size : Nat) : Int) = 1 := by omega
    replace hs := Lib.hid hs
    go_enter Tryz.func70, Tryz.ntmps70
    go_wp2_with fail
    go_ret
    exact ⟨by rw [hR.out]; rfl, rfl⟩

set_option maxRecDepth 100000 in
set_option maxHeartbeats 2000000 in
theorem headOf_short (kind n : Nat) (hk : kind = 128 ∨ kind = 192) (hn : n ≤ 55) : Ret Tryz.prog 69 #[.int .i64 (kind : Int), .int .i64 (n : Int)] (strV (headL kind n)) := by
  intro w
  have hS := Lib.hid (show headL kind n = [UInt8.ofNat (kind + n)] from if_pos hn)
  have hnI : (n : Int) ≤ 55 := by omega
  have hk1 : (kind : Int) ≤ 192 := by omega
  have hk0 : (0 : Int) ≤ (kind : Int) := by omega
  have hn0 : (0 : Int) ≤ (n : Int) := by omega
  obtain ⟨x, hx⟩ : ∃ x : Nat, kind + n = x := ⟨_, rfl⟩
  rw [hx] at hS
  have hxI : (kind : Int) + (n : Int) = (x : Int) := by omega
  have LX := Has.new w 5 #[.int .u8 (x : Int)]
  have hcv := run_convert_bytes_arg (P := Tryz.prog) (w.alloc (.cells #[.int .u8 (x : Int)] 5)) 49 5 Tryz.underlying49 Tryz.underlying5 w.heap.size 0 1 1 [(x : Int)] (by simp) (fun i hi => by
    obtain rfl : i = 0 := by omega
    exact LX.cell 0 _ rfl) 9 Tryz.underlying9
  have hst : strOfNums [(x : Int)] = ⟨(headL kind n).toArray⟩ := by
    rw [hS.out]; simp [strOfNums]
  rw [hst] at hcv
  rw [← hxI] at hcv
  have Q := Lib.hid ((Below.refl w.heap.size w).alloc (Nat.le_refl _) (.cells #[.int .u8 ((kind : Int) + (n : Int))] 5))
  clear hst hS LX hx hxI
  generalize headL kind n = hl at *
  go_enter Tryz.func69, Tryz.ntmps69
  go_wp2_with fail
  go_ret
  exact ⟨rfl, Q.out⟩

set_option maxRecDepth 100000 in
set_option maxHeartbeats 2000000 in
theorem headOf_long (kind n : Nat) (hk : kind = 128 ∨ kind = 192) (hn : 55 < n) (hn2 : n ≤ 4611686018427387903) : Ret Tryz.prog 69 #[.int .i64 (kind : Int), .int .i64 (n : Int)] (strV (headL kind n)) := by
  intro w
  have hS := Lib.hid (show headL kind n = UInt8.ofNat (kind + 55 + (digs n).length) :: digs n from if_neg (by omega))
  have hdl : (digs n).length ≤ 8 := digs_length (k := 8) (by omega)
  have HO := of_ret (n : Int) (by unfold I64; omega)
  rw [show ofN (n : Int) = n by unfold ofN; rw [if_neg (by omega)]; omega] at HO
  have HN := Lib.hid (number_ret n (by unfold W256; omega))
  replace HO := Lib.hid HO
  have hnI : ¬ (n : Int) ≤ 55 := by omega
  have hnI2 : (n : Int) ≤ 4611686018427387903 := by omega
  have hk1 : (kind : Int) ≤ 192 := by omega
  have hk0 : (0 : Int) ≤ (kind : Int) := by omega
  obtain ⟨m, hm⟩ : ∃ m, (digs n).length = m := ⟨_, rfl⟩
  obtain ⟨x, hx⟩ : ∃ x : Nat, kind + 55 + m = x := ⟨_, rfl⟩
  have hxI : (kind : Int) + 55 + (m : Int) = (x : Int) := by omega
  have hmI : (m : Int) ≤ 8 := by omega
  have hm0 : (0 : Int) ≤ (m : Int) := by omega
  have hsz : (⟨(digs n).toArray⟩ : ByteArray).size = m := by rw [← hm]; rfl
  have hcv : ∀ A : World, ∀ dst, Tryz.prog.underlying dst = some .string → (convert 49 dst (.slice (some ⟨A.heap.size, 0, none⟩) 1 1)).run Tryz.prog (A.alloc (.cells #[.int .u8 ((kind : Int) + 55 + (m : Int))] 5)) = .ok (.string ⟨#[UInt8.ofNat (kind + 55 + m)]⟩) (A.alloc (.cells #[.int .u8 ((kind : Int) + 55 + (m : Int))] 5)) := fun A dst hd => by
    rw [hxI, hx]
    have := run_convert_bytes_arg (P := Tryz.prog) (A.alloc (.cells #[.int .u8 (x : Int)] 5)) 49 5 Tryz.underlying49 Tryz.underlying5 A.heap.size 0 1 1 [(x : Int)] (by simp) (fun i hi => by
      obtain rfl : i = 0 := by omega
      exact (Has.new A 5 #[.int .u8 (x : Int)]).cell 0 _ rfl) dst hd
    rw [this]; simp [strOfNums]
  have hst := Lib.hid (show (⟨#[UInt8.ofNat (kind + 55 + m)]⟩ : ByteArray) ++ ⟨(digs n).toArray⟩ = ⟨(headL kind n).toArray⟩ by
    rw [hS.out, hm]
    apply ByteArray.ext
    simp)
  clear hS hx hxI hdl hm
  have hb1 : (⟨#[UInt8.ofNat (kind + 55 + m)]⟩ : ByteArray).size = 1 := rfl
  generalize (⟨#[UInt8.ofNat (kind + 55 + m)]⟩ : ByteArray) = b1 at *
  unfold txtV strV at HN
  unfold strV
  generalize (⟨(headL kind n).toArray⟩ : ByteArray) = hl at *
  generalize (⟨(digs n).toArray⟩ : ByteArray) = sd at *
  replace hcv := Lib.hid hcv
  replace hn := Lib.hid hn
  go_enter Tryz.func69, Tryz.ntmps69
  go_wp2_with fail
  refine (HO.out _).mono ?_
  rintro _ W2 ⟨rfl, q⟩
  have Q := Lib.hid q
  clear q
  go_wp2_with fail
  refine (HN.out _).mono ?_
  rintro _ W3 ⟨rfl, q⟩
  have Q2 := Q.out.trans (q.mono Q.out.size)
  replace Q := Lib.hid (Q2.alloc Q2.size (.cells #[.int .u8 ((kind : Int) + 55 + (m : Int))] 5))
  have hc3 := hcv.out W3
  clear Q2
  have hf3 := itemField1 false sd none 0 0 W3
  clear q hcv
  go_wp2_with fail
  go_ret
  exact ⟨by rw [← hst.out]; rfl, Q.out⟩
theorem headOf_ret (kind n : Nat) (hk : kind = 128 ∨ kind = 192) (hn2 : n ≤ 4611686018427387903) : Ret Tryz.prog 69 #[.int .i64 (kind : Int), .int .i64 (n : Int)] (strV (headL kind n)) := by
  by_cases h : n ≤ 55
  · exact headOf_short kind n hk h
  · exact headOf_long kind n hk (by omega) hn2

/-- What stands ahead of what an item holds, which is so many bytes. -/
def headI (t : It) (n : Nat) : List UInt8 := if t.list then headL 192 n else if bareB t.bytes.data.toList then [] else headL 128 n

set_option maxRecDepth 100000 in
set_option maxHeartbeats 2000000 in
theorem head_any (t : It) (n : Nat) (hn : n ≤ 4611686018427387903) (v : Value) (w : World) (ht : ItemAt w t v) : Calls Tryz.prog 49 #[v, .int .i64 (n : Int)] w fun e w' => e = .returned (strV (headI t n)) ∧ Below w.heap.size w w' := by
  obtain ⟨a, cap, rfl, hkn, hs, hk⟩ := ht.open
  clear ht hk hkn
  have HB := Lib.hid (fun w => bare_any t.bytes.data.toList (by simpa using hs) w)
  have HL := Lib.hid (headOf_ret 192 n (.inr rfl) hn)
  have HT := Lib.hid (headOf_ret 128 n (.inl rfl) hn)
  have hR := Lib.hid (show headI t n = if t.list then headL 192 n else if bareB t.bytes.data.toList then [] else headL 128 n from rfl)
  have hbs : strV t.bytes.data.toList = .string t.bytes := rfl
  rw [hbs] at HB
  clear hbs
  have hnI : (n : Int) ≤ 4611686018427387903 := by omega
  have hn0 : (0 : Int) ≤ (n : Int) := by omega
  replace hn := Lib.hid hn
  generalize headI t n = R at *
  generalize t.list = l at *
  generalize bareB t.bytes.data.toList = bb at *
  generalize t.bytes = b at *
  generalize t.kids.length = kn at *
  have LX := Has.new w 29 #[.bool l, .string b, .slice a kn cap]
  have Q := (Below.refl w.heap.size w).alloc (Nat.le_refl _) (.cells #[.bool l, .string b, .slice a kn cap] 29)
  obtain ⟨W1, hW1⟩ : ∃ W1, w.alloc (.cells #[.bool l, .string b, .slice a kn cap] 29) = W1 := ⟨_, rfl⟩
  rw [hW1] at LX Q
  have k0 := LX.cell 0 _ rfl
  have k1 := LX.cell 1 _ rfl
  have k2 := LX.cell 2 _ rfl
  replace LX := Lib.hid LX
  replace Q := Lib.hid Q
  have hmx : Tryz.prog.follows .mixedOrders = true := by kernel_rfl
  cases l with
  | true =>
    go_enter Tryz.func49, Tryz.ntmps49
    go_wp2_with fail
    refine (HL.out _).mono ?_
    rintro _ W2 ⟨rfl, q⟩
    replace Q := Lib.hid (Q.out.trans (q.mono Q.out.size))
    clear q
    go_wp2_with fail
    go_ret
    exact ⟨by rw [hR.out]; rfl, Q.out⟩
  | false =>
    cases bb with
    | true =>
      go_enter Tryz.func49, Tryz.ntmps49
      go_wp2_with fail
      refine (HB.out _).mono ?_
      rintro _ W2 ⟨rfl, rfl⟩
      go_wp2_with fail
      go_ret
      exact ⟨by rw [hR.out]; rfl, Q.out⟩
    | false =>
      go_enter Tryz.func49, Tryz.ntmps49
      go_wp2_with fail
      refine (HB.out _).mono ?_
      rintro _ W2 ⟨rfl, rfl⟩
      go_wp2_with fail
      refine (HT.out _).mono ?_
      rintro _ W2 ⟨rfl, q⟩
      replace Q := Lib.hid (Q.out.trans (q.mono Q.out.size))
      clear q
      go_wp2_with fail
      go_ret
      exact ⟨by rw [hR.out]; rfl, Q.out⟩
end Go.Proofs.YtbbpmcebakckaaaGreatDoor
