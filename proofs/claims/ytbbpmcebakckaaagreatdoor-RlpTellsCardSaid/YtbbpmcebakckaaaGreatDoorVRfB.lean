import Derived.Test.YtbbpmcebakckaaaGreatDoorVRfA
import Derived.Test.YtbbpmcebakckaaaGreatDoorU25
/- The document's own reader of items: one item, where none is read, or a text. Conditions: the reader lies in memory; places are in reach. -/
namespace Go.Proofs.YtbbpmcebakckaaaGreatDoor
open Go Go.RowKit
attribute [local go_sem] Oper.semAt_some Grows wide_fn

/-- What was read, and what the reader holds then; S tells in which blocks an item lies. -/
def RdQ (s : ByteArray) (R : Nat) (S : Nat → Prop) (r : Rd It) (v : Value) (y : World) : Prop :=
  match r with
  | .ok t a' m' => ItemS y S t v ∧ Has y R 74 (stC s a' m' 0)
  | .no x p => (∃ (b0 : Bool) (s0 : ByteArray) (a : Option Addr) (n c : Nat), v = .agg #[.bool b0, .string s0, .slice a n c]) ∧ x ≠ 0 ∧ ∃ m', Has y R 74 (stC s p m' x)
def RdP (s : ByteArray) (R : Nat) (W : World) (r : Rd It) (E : Ending) (y : World) : Prop :=
  ∃ v, E = .returned v ∧ RdQ s R (fun b => W.heap.size ≤ b) r v y ∧ W.grownBy y (some R)
def RfOK (s : ByteArray) (R d : Nat) : Prop := ∀ (e a m : Nat) (W : World), Has W R 74 (stC s a m 0) → e ≤ s.size → a ≤ 1099511627776 → m ≤ 5000 →
  Calls Tryz.prog 41 #[.pointer (some ⟨R, 0, none⟩), .int .i64 (e : Int), .int .i64 ((16 - d : Nat) : Int)] W (RdP s R W (rdI s d e a m))
theorem ones_zero : ∀ u ∈ ([.bool false, .string ⟨#[]⟩, .slice none 0 0] : List Value), u.oneCell' = true := by simp [Value.oneCell']
set_option maxRecDepth 100000 in
set_option maxHeartbeats 4000000 in
theorem rf_deep0 (s : ByteArray) (R d e a m : Nat) (w : World) (hR : Has w R 74 (stC s a m 0)) (ha : a ≤ 1099511627776) (hm : m ≤ 5000) (he : e ≤ 1099511627776) (hd : d = 0) (hc : m < 5000) (hc2 : a < e) :
    Calls Tryz.prog 41 #[.pointer (some ⟨R, 0, none⟩), .int .i64 (e : Int), .int .i64 ((16 - d : Nat) : Int)] w (RdP s R w (rdI s d e a m)) := by
  have hmx : Tryz.prog.follows .mixedOrders = true := by kernel_rfl
  have LS := Has.new w 29 #[.bool false, .string ⟨#[]⟩, .slice none 0 0]
  have LR := hR.alloc (.cells #[.bool false, .string ⟨#[]⟩, .slice none 0 0] 29)
  have Q := (Below.refl w.heap.size w).alloc (Nat.le_refl _) (.cells #[.bool false, .string ⟨#[]⟩, .slice none 0 0] 29)
  have hRlt := hR.lt
  obtain ⟨W1, hW1⟩ : ∃ W1, w.alloc (.cells #[.bool false, .string ⟨#[]⟩, .slice none 0 0] 29) = W1 := ⟨_, rfl⟩
  rw [hW1] at LS LR Q
  have haI0 : (0 : Int) ≤ (a : Int) := by omega
  have haI1 : (a : Int) ≤ 1099511627776 := by omega
  have hmI0 : (0 : Int) ≤ (m : Int) := by omega
  have hmI1 : (m : Int) ≤ 5000 := by omega
  have c1 : W1.cell? ⟨R, 1, none⟩ = some (.int .i64 (a : Int)) := LR.cell 1 _ rfl
  have c2 : W1.cell? ⟨R, 2, none⟩ = some (.int .i64 (m : Int)) := LR.cell 2 _ rfl
  have c3 : W1.cell? ⟨R, 3, none⟩ = some (.int .i64 0) := LR.cell 3 _ rfl
  have hr : rdI s d e a m = .no 13 a := by
    subst hd
    unfold rdI
    rw [rdItem]
  rw [hr]
  replace LS := Lib.hid LS
  replace LR := Lib.hid LR
  replace Q := Lib.hid Q
  clear hr hR
  generalize hdI : ((16 - d : Nat) : Int) = dI
  have hdd : (16 : Int) ≤ dI := by omega
  have hmm : ¬ (5000 : Int) ≤ (m : Int) := by omega
  have hae : ¬ (e : Int) ≤ (a : Int) := by omega
  have haN : decide (e ≤ a) = false := by rw [decide_eq_false_iff_not]; omega
  clear hdI he ha hm hd hc hc2
  go_enter Tryz.func41, Tryz.ntmps41
  have HF := Lib.hid (show Calls Tryz.prog 42 #[.pointer (some ⟨R, 0, none⟩), .int .i64 13, .int .i64 (a : Int)] W1 _ from fail_first s R a m 13 a W1 LR.out)
  go_wp2_with fail
  refine HF.out.mono ?_
  rintro _ y ⟨rfl, hy, hg⟩
  have HRy := Lib.hid hy
  have GY := Lib.hid (show w.grownBy y (some R) from grown_trans (grown_of_below Q.out (some R)) hg)
  have LSy := Lib.hid (LS.out.sr hg (by omega))
  have d2 : y.cell? ⟨R, 2, none⟩ = some (.int .i64 (m : Int)) := hy.cell 2 _ rfl
  have d3 : y.cell? ⟨R, 3, none⟩ = some (.int .i64 13) := hy.cell 3 _ rfl
  clear hy hg HF c1 c2 c3
  have x0 := LSy.out.cell 0 _ rfl
  have x1 := LSy.out.cell 1 _ rfl
  have x2 := LSy.out.cell 2 _ rfl
  have f0 := LSy.out.frozen 0
  have f1 := LSy.out.frozen 1
  have f2 := LSy.out.frozen 2
  have S := Lib.hid (((LSy.out.set 0 (.bool false)).set 1 (.string ⟨#[]⟩)).set 2 (.slice none 0 0))
  have HRz := Lib.hid (((HRy.out.other (p := ⟨w.heap.size, 0, none⟩) (by show R ≠ w.heap.size; omega) (.bool false)).other (p := ⟨w.heap.size, 1, none⟩) (by show R ≠ w.heap.size; omega) (.string ⟨#[]⟩)).other (p := ⟨w.heap.size, 2, none⟩) (by show R ≠ w.heap.size; omega) (.slice none 0 0))
  have GZ := Lib.hid (grown_set (grown_set (grown_set GY.out (p := ⟨w.heap.size, 0, none⟩) (.inr (Nat.le_refl _)) (.bool false)) (p := ⟨w.heap.size, 1, none⟩) (.inr (Nat.le_refl _)) (.string ⟨#[]⟩)) (p := ⟨w.heap.size, 2, none⟩) (.inr (Nat.le_refl _)) (.slice none 0 0))
  go_wp2_with fail
  have z0 := S.out.cell 0 _ rfl
  have z1 := S.out.cell 1 _ rfl
  have z2 := S.out.cell 2 _ rfl
  refine bodyPost_ret (v := .agg #[.bool false, .string ⟨#[]⟩, .slice none 0 0]) (by simp [results, Tryz.results41, go_sem, z0, z1, z2]) rfl ⟨_, rfl, ?_, GZ.out⟩
  exact ⟨⟨_, _, _, _, _, rfl⟩, by decide, _, HRz.out⟩
set_option maxRecDepth 100000 in
set_option maxHeartbeats 4000000 in
theorem rf_deep1 (s : ByteArray) (R d e a m : Nat) (w : World) (hR : Has w R 74 (stC s a m 0)) (ha : a ≤ 1099511627776) (hm : m ≤ 5000) (he : e ≤ 1099511627776) (hd : d = 0) (hc : m < 5000) (hc2 : e ≤ a) :
    Calls Tryz.prog 41 #[.pointer (some ⟨R, 0, none⟩), .int .i64 (e : Int), .int .i64 ((16 - d : Nat) : Int)] w (RdP s R w (rdI s d e a m)) := by
  have hmx : Tryz.prog.follows .mixedOrders = true := by kernel_rfl
  have LS := Has.new w 29 #[.bool false, .string ⟨#[]⟩, .slice none 0 0]
  have LR := hR.alloc (.cells #[.bool false, .string ⟨#[]⟩, .slice none 0 0] 29)
  have Q := (Below.refl w.heap.size w).alloc (Nat.le_refl _) (.cells #[.bool false, .string ⟨#[]⟩, .slice none 0 0] 29)
  have hRlt := hR.lt
  obtain ⟨W1, hW1⟩ : ∃ W1, w.alloc (.cells #[.bool false, .string ⟨#[]⟩, .slice none 0 0] 29) = W1 := ⟨_, rfl⟩
  rw [hW1] at LS LR Q
  have haI0 : (0 : Int) ≤ (a : Int) := by omega
  have haI1 : (a : Int) ≤ 1099511627776 := by omega
  have hmI0 : (0 : Int) ≤ (m : Int) := by omega
  have hmI1 : (m : Int) ≤ 5000 := by omega
  have c1 : W1.cell? ⟨R, 1, none⟩ = some (.int .i64 (a : Int)) := LR.cell 1 _ rfl
  have c2 : W1.cell? ⟨R, 2, none⟩ = some (.int .i64 (m : Int)) := LR.cell 2 _ rfl
  have c3 : W1.cell? ⟨R, 3, none⟩ = some (.int .i64 0) := LR.cell 3 _ rfl
  have hr : rdI s d e a m = .no 13 a := by
    subst hd
    unfold rdI
    rw [rdItem]
  rw [hr]
  replace LS := Lib.hid LS
  replace LR := Lib.hid LR
  replace Q := Lib.hid Q
  clear hr hR
  generalize hdI : ((16 - d : Nat) : Int) = dI
  have hdd : (16 : Int) ≤ dI := by omega
  have hmm : ¬ (5000 : Int) ≤ (m : Int) := by omega
  have hae : (e : Int) ≤ (a : Int) := by omega
  have haN : decide (e ≤ a) = true := by rw [decide_eq_true_eq]; omega
  clear hdI he ha hm hd hc hc2
  go_enter Tryz.func41, Tryz.ntmps41
  have HF := Lib.hid (show Calls Tryz.prog 42 #[.pointer (some ⟨R, 0, none⟩), .int .i64 13, .int .i64 (a : Int)] W1 _ from fail_first s R a m 13 a W1 LR.out)
  go_wp2_with fail
  refine HF.out.mono ?_
  rintro _ y ⟨rfl, hy, hg⟩
  have HRy := Lib.hid hy
  have GY := Lib.hid (show w.grownBy y (some R) from grown_trans (grown_of_below Q.out (some R)) hg)
  have LSy := Lib.hid (LS.out.sr hg (by omega))
  have d2 : y.cell? ⟨R, 2, none⟩ = some (.int .i64 (m : Int)) := hy.cell 2 _ rfl
  have d3 : y.cell? ⟨R, 3, none⟩ = some (.int .i64 13) := hy.cell 3 _ rfl
  clear hy hg HF c1 c2 c3
  have HL := Lib.hid (show Calls Tryz.prog 42 #[.pointer (some ⟨R, 0, none⟩), .int .i64 10, .int .i64 (a : Int)] y _ from fail_later s R a m 13 10 a y HRy.out (by decide))
  go_wp2_with fail
  refine HL.out.mono ?_
  rintro _ y' ⟨rfl, hyy⟩
  have hyy2 := hyy.symm
  clear hyy
  subst hyy2
  clear HL
  have x0 := LSy.out.cell 0 _ rfl
  have x1 := LSy.out.cell 1 _ rfl
  have x2 := LSy.out.cell 2 _ rfl
  have f0 := LSy.out.frozen 0
  have f1 := LSy.out.frozen 1
  have f2 := LSy.out.frozen 2
  have S := Lib.hid (((LSy.out.set 0 (.bool false)).set 1 (.string ⟨#[]⟩)).set 2 (.slice none 0 0))
  have HRz := Lib.hid (((HRy.out.other (p := ⟨w.heap.size, 0, none⟩) (by show R ≠ w.heap.size; omega) (.bool false)).other (p := ⟨w.heap.size, 1, none⟩) (by show R ≠ w.heap.size; omega) (.string ⟨#[]⟩)).other (p := ⟨w.heap.size, 2, none⟩) (by show R ≠ w.heap.size; omega) (.slice none 0 0))
  have GZ := Lib.hid (grown_set (grown_set (grown_set GY.out (p := ⟨w.heap.size, 0, none⟩) (.inr (Nat.le_refl _)) (.bool false)) (p := ⟨w.heap.size, 1, none⟩) (.inr (Nat.le_refl _)) (.string ⟨#[]⟩)) (p := ⟨w.heap.size, 2, none⟩) (.inr (Nat.le_refl _)) (.slice none 0 0))
  go_wp2_with fail
  have z0 := S.out.cell 0 _ rfl
  have z1 := S.out.cell 1 _ rfl
  have z2 := S.out.cell 2 _ rfl
  refine bodyPost_ret (v := .agg #[.bool false, .string ⟨#[]⟩, .slice none 0 0]) (by simp [results, Tryz.results41, go_sem, z0, z1, z2]) rfl ⟨_, rfl, ?_, GZ.out⟩
  exact ⟨⟨_, _, _, _, _, rfl⟩, by decide, _, HRz.out⟩
set_option maxRecDepth 100000 in
set_option maxHeartbeats 4000000 in
theorem rf_deep2 (s : ByteArray) (R d e a m : Nat) (w : World) (hR : Has w R 74 (stC s a m 0)) (ha : a ≤ 1099511627776) (hm : m ≤ 5000) (he : e ≤ 1099511627776) (hd : d = 0) (hc : 5000 ≤ m) (hc2 : a < e) :
    Calls Tryz.prog 41 #[.pointer (some ⟨R, 0, none⟩), .int .i64 (e : Int), .int .i64 ((16 - d : Nat) : Int)] w (RdP s R w (rdI s d e a m)) := by
  have hmx : Tryz.prog.follows .mixedOrders = true := by kernel_rfl
  have LS := Has.new w 29 #[.bool false, .string ⟨#[]⟩, .slice none 0 0]
  have LR := hR.alloc (.cells #[.bool false, .string ⟨#[]⟩, .slice none 0 0] 29)
  have Q := (Below.refl w.heap.size w).alloc (Nat.le_refl _) (.cells #[.bool false, .string ⟨#[]⟩, .slice none 0 0] 29)
  have hRlt := hR.lt
  obtain ⟨W1, hW1⟩ : ∃ W1, w.alloc (.cells #[.bool false, .string ⟨#[]⟩, .slice none 0 0] 29) = W1 := ⟨_, rfl⟩
  rw [hW1] at LS LR Q
  have haI0 : (0 : Int) ≤ (a : Int) := by omega
  have haI1 : (a : Int) ≤ 1099511627776 := by omega
  have hmI0 : (0 : Int) ≤ (m : Int) := by omega
  have hmI1 : (m : Int) ≤ 5000 := by omega
  have c1 : W1.cell? ⟨R, 1, none⟩ = some (.int .i64 (a : Int)) := LR.cell 1 _ rfl
  have c2 : W1.cell? ⟨R, 2, none⟩ = some (.int .i64 (m : Int)) := LR.cell 2 _ rfl
  have c3 : W1.cell? ⟨R, 3, none⟩ = some (.int .i64 0) := LR.cell 3 _ rfl
  have hr : rdI s d e a m = .no 13 a := by
    subst hd
    unfold rdI
    rw [rdItem]
  rw [hr]
  replace LS := Lib.hid LS
  replace LR := Lib.hid LR
  replace Q := Lib.hid Q
  clear hr hR
  generalize hdI : ((16 - d : Nat) : Int) = dI
  have hdd : (16 : Int) ≤ dI := by omega
  have hmm : (5000 : Int) ≤ (m : Int) := by omega
  have hae : ¬ (e : Int) ≤ (a : Int) := by omega
  have haN : decide (e ≤ a) = false := by rw [decide_eq_false_iff_not]; omega
  clear hdI he ha hm hd hc hc2
  go_enter Tryz.func41, Tryz.ntmps41
  have HF := Lib.hid (show Calls Tryz.prog 42 #[.pointer (some ⟨R, 0, none⟩), .int .i64 13, .int .i64 (a : Int)] W1 _ from fail_first s R a m 13 a W1 LR.out)
  go_wp2_with fail
  refine HF.out.mono ?_
  rintro _ y ⟨rfl, hy, hg⟩
  have HRy := Lib.hid hy
  have GY := Lib.hid (show w.grownBy y (some R) from grown_trans (grown_of_below Q.out (some R)) hg)
  have LSy := Lib.hid (LS.out.sr hg (by omega))
  have d2 : y.cell? ⟨R, 2, none⟩ = some (.int .i64 (m : Int)) := hy.cell 2 _ rfl
  have d3 : y.cell? ⟨R, 3, none⟩ = some (.int .i64 13) := hy.cell 3 _ rfl
  clear hy hg HF c1 c2 c3
  have HL := Lib.hid (show Calls Tryz.prog 42 #[.pointer (some ⟨R, 0, none⟩), .int .i64 2, .int .i64 (a : Int)] y _ from fail_later s R a m 13 2 a y HRy.out (by decide))
  go_wp2_with fail
  refine HL.out.mono ?_
  rintro _ y' ⟨rfl, hyy⟩
  have hyy2 := hyy.symm
  clear hyy
  subst hyy2
  clear HL
  have x0 := LSy.out.cell 0 _ rfl
  have x1 := LSy.out.cell 1 _ rfl
  have x2 := LSy.out.cell 2 _ rfl
  have f0 := LSy.out.frozen 0
  have f1 := LSy.out.frozen 1
  have f2 := LSy.out.frozen 2
  have S := Lib.hid (((LSy.out.set 0 (.bool false)).set 1 (.string ⟨#[]⟩)).set 2 (.slice none 0 0))
  have HRz := Lib.hid (((HRy.out.other (p := ⟨w.heap.size, 0, none⟩) (by show R ≠ w.heap.size; omega) (.bool false)).other (p := ⟨w.heap.size, 1, none⟩) (by show R ≠ w.heap.size; omega) (.string ⟨#[]⟩)).other (p := ⟨w.heap.size, 2, none⟩) (by show R ≠ w.heap.size; omega) (.slice none 0 0))
  have GZ := Lib.hid (grown_set (grown_set (grown_set GY.out (p := ⟨w.heap.size, 0, none⟩) (.inr (Nat.le_refl _)) (.bool false)) (p := ⟨w.heap.size, 1, none⟩) (.inr (Nat.le_refl _)) (.string ⟨#[]⟩)) (p := ⟨w.heap.size, 2, none⟩) (.inr (Nat.le_refl _)) (.slice none 0 0))
  go_wp2_with fail
  have z0 := S.out.cell 0 _ rfl
  have z1 := S.out.cell 1 _ rfl
  have z2 := S.out.cell 2 _ rfl
  refine bodyPost_ret (v := .agg #[.bool false, .string ⟨#[]⟩, .slice none 0 0]) (by simp [results, Tryz.results41, go_sem, z0, z1, z2]) rfl ⟨_, rfl, ?_, GZ.out⟩
  exact ⟨⟨_, _, _, _, _, rfl⟩, by decide, _, HRz.out⟩
set_option maxRecDepth 100000 in
set_option maxHeartbeats 4000000 in
theorem rf_deep3 (s : ByteArray) (R d e a m : Nat) (w : World) (hR : Has w R 74 (stC s a m 0)) (ha : a ≤ 1099511627776) (hm : m ≤ 5000) (he : e ≤ 1099511627776) (hd : d = 0) (hc : 5000 ≤ m) (hc2 : e ≤ a) :
    Calls Tryz.prog 41 #[.pointer (some ⟨R, 0, none⟩), .int .i64 (e : Int), .int .i64 ((16 - d : Nat) : Int)] w (RdP s R w (rdI s d e a m)) := by
  have hmx : Tryz.prog.follows .mixedOrders = true := by kernel_rfl
  have LS := Has.new w 29 #[.bool false, .string ⟨#[]⟩, .slice none 0 0]
  have LR := hR.alloc (.cells #[.bool false, .string ⟨#[]⟩, .slice none 0 0] 29)
  have Q := (Below.refl w.heap.size w).alloc (Nat.le_refl _) (.cells #[.bool false, .string ⟨#[]⟩, .slice none 0 0] 29)
  have hRlt := hR.lt
  obtain ⟨W1, hW1⟩ : ∃ W1, w.alloc (.cells #[.bool false, .string ⟨#[]⟩, .slice none 0 0] 29) = W1 := ⟨_, rfl⟩
  rw [hW1] at LS LR Q
  have haI0 : (0 : Int) ≤ (a : Int) := by omega
  have haI1 : (a : Int) ≤ 1099511627776 := by omega
  have hmI0 : (0 : Int) ≤ (m : Int) := by omega
  have hmI1 : (m : Int) ≤ 5000 := by omega
  have c1 : W1.cell? ⟨R, 1, none⟩ = some (.int .i64 (a : Int)) := LR.cell 1 _ rfl
  have c2 : W1.cell? ⟨R, 2, none⟩ = some (.int .i64 (m : Int)) := LR.cell 2 _ rfl
  have c3 : W1.cell? ⟨R, 3, none⟩ = some (.int .i64 0) := LR.cell 3 _ rfl
  have hr : rdI s d e a m = .no 13 a := by
    subst hd
    unfold rdI
    rw [rdItem]
  rw [hr]
  replace LS := Lib.hid LS
  replace LR := Lib.hid LR
  replace Q := Lib.hid Q
  clear hr hR
  generalize hdI : ((16 - d : Nat) : Int) = dI
  have hdd : (16 : Int) ≤ dI := by omega
  have hmm : (5000 : Int) ≤ (m : Int) := by omega
  have hae : (e : Int) ≤ (a : Int) := by omega
  have haN : decide (e ≤ a) = true := by rw [decide_eq_true_eq]; omega
  clear hdI he ha hm hd hc hc2
  go_enter Tryz.func41, Tryz.ntmps41
  have HF := Lib.hid (show Calls Tryz.prog 42 #[.pointer (some ⟨R, 0, none⟩), .int .i64 13, .int .i64 (a : Int)] W1 _ from fail_first s R a m 13 a W1 LR.out)
  go_wp2_with fail
  refine HF.out.mono ?_
  rintro _ y ⟨rfl, hy, hg⟩
  have HRy := Lib.hid hy
  have GY := Lib.hid (show w.grownBy y (some R) from grown_trans (grown_of_below Q.out (some R)) hg)
  have LSy := Lib.hid (LS.out.sr hg (by omega))
  have d2 : y.cell? ⟨R, 2, none⟩ = some (.int .i64 (m : Int)) := hy.cell 2 _ rfl
  have d3 : y.cell? ⟨R, 3, none⟩ = some (.int .i64 13) := hy.cell 3 _ rfl
  clear hy hg HF c1 c2 c3
  have HL := Lib.hid (show Calls Tryz.prog 42 #[.pointer (some ⟨R, 0, none⟩), .int .i64 2, .int .i64 (a : Int)] y _ from fail_later s R a m 13 2 a y HRy.out (by decide))
  go_wp2_with fail
  refine HL.out.mono ?_
  rintro _ y' ⟨rfl, hyy⟩
  have hyy2 := hyy.symm
  clear hyy
  subst hyy2
  clear HL
  have HL := Lib.hid (show Calls Tryz.prog 42 #[.pointer (some ⟨R, 0, none⟩), .int .i64 10, .int .i64 (a : Int)] y _ from fail_later s R a m 13 10 a y HRy.out (by decide))
  go_wp2_with fail
  refine HL.out.mono ?_
  rintro _ y' ⟨rfl, hyy⟩
  have hyy2 := hyy.symm
  clear hyy
  subst hyy2
  clear HL
  have x0 := LSy.out.cell 0 _ rfl
  have x1 := LSy.out.cell 1 _ rfl
  have x2 := LSy.out.cell 2 _ rfl
  have f0 := LSy.out.frozen 0
  have f1 := LSy.out.frozen 1
  have f2 := LSy.out.frozen 2
  have S := Lib.hid (((LSy.out.set 0 (.bool false)).set 1 (.string ⟨#[]⟩)).set 2 (.slice none 0 0))
  have HRz := Lib.hid (((HRy.out.other (p := ⟨w.heap.size, 0, none⟩) (by show R ≠ w.heap.size; omega) (.bool false)).other (p := ⟨w.heap.size, 1, none⟩) (by show R ≠ w.heap.size; omega) (.string ⟨#[]⟩)).other (p := ⟨w.heap.size, 2, none⟩) (by show R ≠ w.heap.size; omega) (.slice none 0 0))
  have GZ := Lib.hid (grown_set (grown_set (grown_set GY.out (p := ⟨w.heap.size, 0, none⟩) (.inr (Nat.le_refl _)) (.bool false)) (p := ⟨w.heap.size, 1, none⟩) (.inr (Nat.le_refl _)) (.string ⟨#[]⟩)) (p := ⟨w.heap.size, 2, none⟩) (.inr (Nat.le_refl _)) (.slice none 0 0))
  go_wp2_with fail
  have z0 := S.out.cell 0 _ rfl
  have z1 := S.out.cell 1 _ rfl
  have z2 := S.out.cell 2 _ rfl
  refine bodyPost_ret (v := .agg #[.bool false, .string ⟨#[]⟩, .slice none 0 0]) (by simp [results, Tryz.results41, go_sem, z0, z1, z2]) rfl ⟨_, rfl, ?_, GZ.out⟩
  exact ⟨⟨_, _, _, _, _, rfl⟩, by decide, _, HRz.out⟩
set_option maxRecDepth 100000 in
set_option maxHeartbeats 4000000 in
theorem rf_many0 (s : ByteArray) (R d e a m : Nat) (w : World) (hR : Has w R 74 (stC s a m 0)) (ha : a ≤ 1099511627776) (hm : m ≤ 5000) (he : e ≤ 1099511627776) (hd : 1 ≤ d) (hd2 : d ≤ 16) (hc : 5000 ≤ m) (hc2 : a < e) :
    Calls Tryz.prog 41 #[.pointer (some ⟨R, 0, none⟩), .int .i64 (e : Int), .int .i64 ((16 - d : Nat) : Int)] w (RdP s R w (rdI s d e a m)) := by
  have hmx : Tryz.prog.follows .mixedOrders = true := by kernel_rfl
  have LS := Has.new w 29 #[.bool false, .string ⟨#[]⟩, .slice none 0 0]
  have LR := hR.alloc (.cells #[.bool false, .string ⟨#[]⟩, .slice none 0 0] 29)
  have Q := (Below.refl w.heap.size w).alloc (Nat.le_refl _) (.cells #[.bool false, .string ⟨#[]⟩, .slice none 0 0] 29)
  have hRlt := hR.lt
  obtain ⟨W1, hW1⟩ : ∃ W1, w.alloc (.cells #[.bool false, .string ⟨#[]⟩, .slice none 0 0] 29) = W1 := ⟨_, rfl⟩
  rw [hW1] at LS LR Q
  have haI0 : (0 : Int) ≤ (a : Int) := by omega
  have haI1 : (a : Int) ≤ 1099511627776 := by omega
  have hmI0 : (0 : Int) ≤ (m : Int) := by omega
  have hmI1 : (m : Int) ≤ 5000 := by omega
  have c1 : W1.cell? ⟨R, 1, none⟩ = some (.int .i64 (a : Int)) := LR.cell 1 _ rfl
  have c2 : W1.cell? ⟨R, 2, none⟩ = some (.int .i64 (m : Int)) := LR.cell 2 _ rfl
  have c3 : W1.cell? ⟨R, 3, none⟩ = some (.int .i64 0) := LR.cell 3 _ rfl
  have hr : rdI s d e a m = .no 2 a := by
    obtain ⟨d', rfl⟩ : ∃ d', d = d' + 1 := ⟨d - 1, by omega⟩
    unfold rdI
    rw [rdItem]
    unfold rdStep
    rw [if_pos hc]
  rw [hr]
  replace LS := Lib.hid LS
  replace LR := Lib.hid LR
  replace Q := Lib.hid Q
  clear hr hR
  generalize hdI : ((16 - d : Nat) : Int) = dI
  have hdd : ¬ (16 : Int) ≤ dI := by omega
  have hmm : (5000 : Int) ≤ (m : Int) := by omega
  have hae : ¬ (e : Int) ≤ (a : Int) := by omega
  have haN : decide (e ≤ a) = false := by rw [decide_eq_false_iff_not]; omega
  clear hdI he ha hm hd hd2 hc hc2
  go_enter Tryz.func41, Tryz.ntmps41
  have HF := Lib.hid (show Calls Tryz.prog 42 #[.pointer (some ⟨R, 0, none⟩), .int .i64 2, .int .i64 (a : Int)] W1 _ from fail_first s R a m 2 a W1 LR.out)
  go_wp2_with fail
  refine HF.out.mono ?_
  rintro _ y ⟨rfl, hy, hg⟩
  have HRy := Lib.hid hy
  have GY := Lib.hid (show w.grownBy y (some R) from grown_trans (grown_of_below Q.out (some R)) hg)
  have LSy := Lib.hid (LS.out.sr hg (by omega))
  have d2 : y.cell? ⟨R, 2, none⟩ = some (.int .i64 (m : Int)) := hy.cell 2 _ rfl
  have d3 : y.cell? ⟨R, 3, none⟩ = some (.int .i64 2) := hy.cell 3 _ rfl
  clear hy hg HF c1 c2 c3
  have x0 := LSy.out.cell 0 _ rfl
  have x1 := LSy.out.cell 1 _ rfl
  have x2 := LSy.out.cell 2 _ rfl
  have f0 := LSy.out.frozen 0
  have f1 := LSy.out.frozen 1
  have f2 := LSy.out.frozen 2
  have S := Lib.hid (((LSy.out.set 0 (.bool false)).set 1 (.string ⟨#[]⟩)).set 2 (.slice none 0 0))
  have HRz := Lib.hid (((HRy.out.other (p := ⟨w.heap.size, 0, none⟩) (by show R ≠ w.heap.size; omega) (.bool false)).other (p := ⟨w.heap.size, 1, none⟩) (by show R ≠ w.heap.size; omega) (.string ⟨#[]⟩)).other (p := ⟨w.heap.size, 2, none⟩) (by show R ≠ w.heap.size; omega) (.slice none 0 0))
  have GZ := Lib.hid (grown_set (grown_set (grown_set GY.out (p := ⟨w.heap.size, 0, none⟩) (.inr (Nat.le_refl _)) (.bool false)) (p := ⟨w.heap.size, 1, none⟩) (.inr (Nat.le_refl _)) (.string ⟨#[]⟩)) (p := ⟨w.heap.size, 2, none⟩) (.inr (Nat.le_refl _)) (.slice none 0 0))
  go_wp2_with fail
  have z0 := S.out.cell 0 _ rfl
  have z1 := S.out.cell 1 _ rfl
  have z2 := S.out.cell 2 _ rfl
  refine bodyPost_ret (v := .agg #[.bool false, .string ⟨#[]⟩, .slice none 0 0]) (by simp [results, Tryz.results41, go_sem, z0, z1, z2]) rfl ⟨_, rfl, ?_, GZ.out⟩
  exact ⟨⟨_, _, _, _, _, rfl⟩, by decide, _, HRz.out⟩
set_option maxRecDepth 100000 in
set_option maxHeartbeats 4000000 in
theorem rf_many1 (s : ByteArray) (R d e a m : Nat) (w : World) (hR : Has w R 74 (stC s a m 0)) (ha : a ≤ 1099511627776) (hm : m ≤ 5000) (he : e ≤ 1099511627776) (hd : 1 ≤ d) (hd2 : d ≤ 16) (hc : 5000 ≤ m) (hc2 : e ≤ a) :
    Calls Tryz.prog 41 #[.pointer (some ⟨R, 0, none⟩), .int .i64 (e : Int), .int .i64 ((16 - d : Nat) : Int)] w (RdP s R w (rdI s d e a m)) := by
  have hmx : Tryz.prog.follows .mixedOrders = true := by kernel_rfl
  have LS := Has.new w 29 #[.bool false, .string ⟨#[]⟩, .slice none 0 0]
  have LR := hR.alloc (.cells #[.bool false, .string ⟨#[]⟩, .slice none 0 0] 29)
  have Q := (Below.refl w.heap.size w).alloc (Nat.le_refl _) (.cells #[.bool false, .string ⟨#[]⟩, .slice none 0 0] 29)
  have hRlt := hR.lt
  obtain ⟨W1, hW1⟩ : ∃ W1, w.alloc (.cells #[.bool false, .string ⟨#[]⟩, .slice none 0 0] 29) = W1 := ⟨_, rfl⟩
  rw [hW1] at LS LR Q
  have haI0 : (0 : Int) ≤ (a : Int) := by omega
  have haI1 : (a : Int) ≤ 1099511627776 := by omega
  have hmI0 : (0 : Int) ≤ (m : Int) := by omega
  have hmI1 : (m : Int) ≤ 5000 := by omega
  have c1 : W1.cell? ⟨R, 1, none⟩ = some (.int .i64 (a : Int)) := LR.cell 1 _ rfl
  have c2 : W1.cell? ⟨R, 2, none⟩ = some (.int .i64 (m : Int)) := LR.cell 2 _ rfl
  have c3 : W1.cell? ⟨R, 3, none⟩ = some (.int .i64 0) := LR.cell 3 _ rfl
  have hr : rdI s d e a m = .no 2 a := by
    obtain ⟨d', rfl⟩ : ∃ d', d = d' + 1 := ⟨d - 1, by omega⟩
    unfold rdI
    rw [rdItem]
    unfold rdStep
    rw [if_pos hc]
  rw [hr]
  replace LS := Lib.hid LS
  replace LR := Lib.hid LR
  replace Q := Lib.hid Q
  clear hr hR
  generalize hdI : ((16 - d : Nat) : Int) = dI
  have hdd : ¬ (16 : Int) ≤ dI := by omega
  have hmm : (5000 : Int) ≤ (m : Int) := by omega
  have hae : (e : Int) ≤ (a : Int) := by omega
  have haN : decide (e ≤ a) = true := by rw [decide_eq_true_eq]; omega
  clear hdI he ha hm hd hd2 hc hc2
  go_enter Tryz.func41, Tryz.ntmps41
  have HF := Lib.hid (show Calls Tryz.prog 42 #[.pointer (some ⟨R, 0, none⟩), .int .i64 2, .int .i64 (a : Int)] W1 _ from fail_first s R a m 2 a W1 LR.out)
  go_wp2_with fail
  refine HF.out.mono ?_
  rintro _ y ⟨rfl, hy, hg⟩
  have HRy := Lib.hid hy
  have GY := Lib.hid (show w.grownBy y (some R) from grown_trans (grown_of_below Q.out (some R)) hg)
  have LSy := Lib.hid (LS.out.sr hg (by omega))
  have d2 : y.cell? ⟨R, 2, none⟩ = some (.int .i64 (m : Int)) := hy.cell 2 _ rfl
  have d3 : y.cell? ⟨R, 3, none⟩ = some (.int .i64 2) := hy.cell 3 _ rfl
  clear hy hg HF c1 c2 c3
  have HL := Lib.hid (show Calls Tryz.prog 42 #[.pointer (some ⟨R, 0, none⟩), .int .i64 10, .int .i64 (a : Int)] y _ from fail_later s R a m 2 10 a y HRy.out (by decide))
  go_wp2_with fail
  refine HL.out.mono ?_
  rintro _ y' ⟨rfl, hyy⟩
  have hyy2 := hyy.symm
  clear hyy
  subst hyy2
  clear HL
  have x0 := LSy.out.cell 0 _ rfl
  have x1 := LSy.out.cell 1 _ rfl
  have x2 := LSy.out.cell 2 _ rfl
  have f0 := LSy.out.frozen 0
  have f1 := LSy.out.frozen 1
  have f2 := LSy.out.frozen 2
  have S := Lib.hid (((LSy.out.set 0 (.bool false)).set 1 (.string ⟨#[]⟩)).set 2 (.slice none 0 0))
  have HRz := Lib.hid (((HRy.out.other (p := ⟨w.heap.size, 0, none⟩) (by show R ≠ w.heap.size; omega) (.bool false)).other (p := ⟨w.heap.size, 1, none⟩) (by show R ≠ w.heap.size; omega) (.string ⟨#[]⟩)).other (p := ⟨w.heap.size, 2, none⟩) (by show R ≠ w.heap.size; omega) (.slice none 0 0))
  have GZ := Lib.hid (grown_set (grown_set (grown_set GY.out (p := ⟨w.heap.size, 0, none⟩) (.inr (Nat.le_refl _)) (.bool false)) (p := ⟨w.heap.size, 1, none⟩) (.inr (Nat.le_refl _)) (.string ⟨#[]⟩)) (p := ⟨w.heap.size, 2, none⟩) (.inr (Nat.le_refl _)) (.slice none 0 0))
  go_wp2_with fail
  have z0 := S.out.cell 0 _ rfl
  have z1 := S.out.cell 1 _ rfl
  have z2 := S.out.cell 2 _ rfl
  refine bodyPost_ret (v := .agg #[.bool false, .string ⟨#[]⟩, .slice none 0 0]) (by simp [results, Tryz.results41, go_sem, z0, z1, z2]) rfl ⟨_, rfl, ?_, GZ.out⟩
  exact ⟨⟨_, _, _, _, _, rfl⟩, by decide, _, HRz.out⟩
set_option maxRecDepth 100000 in
set_option maxHeartbeats 4000000 in
theorem rf_short (s : ByteArray) (R d e a m : Nat) (w : World) (hR : Has w R 74 (stC s a m 0)) (ha : a ≤ 1099511627776) (hm : m ≤ 5000) (he : e ≤ 1099511627776) (hd : 1 ≤ d) (hd2 : d ≤ 16) (hc : m < 5000) (hc2 : e ≤ a) :
    Calls Tryz.prog 41 #[.pointer (some ⟨R, 0, none⟩), .int .i64 (e : Int), .int .i64 ((16 - d : Nat) : Int)] w (RdP s R w (rdI s d e a m)) := by
  have hmx : Tryz.prog.follows .mixedOrders = true := by kernel_rfl
  have LS := Has.new w 29 #[.bool false, .string ⟨#[]⟩, .slice none 0 0]
  have LR := hR.alloc (.cells #[.bool false, .string ⟨#[]⟩, .slice none 0 0] 29)
  have Q := (Below.refl w.heap.size w).alloc (Nat.le_refl _) (.cells #[.bool false, .string ⟨#[]⟩, .slice none 0 0] 29)
  have hRlt := hR.lt
  obtain ⟨W1, hW1⟩ : ∃ W1, w.alloc (.cells #[.bool false, .string ⟨#[]⟩, .slice none 0 0] 29) = W1 := ⟨_, rfl⟩
  rw [hW1] at LS LR Q
  have haI0 : (0 : Int) ≤ (a : Int) := by omega
  have haI1 : (a : Int) ≤ 1099511627776 := by omega
  have hmI0 : (0 : Int) ≤ (m : Int) := by omega
  have hmI1 : (m : Int) ≤ 5000 := by omega
  have c1 : W1.cell? ⟨R, 1, none⟩ = some (.int .i64 (a : Int)) := LR.cell 1 _ rfl
  have c2 : W1.cell? ⟨R, 2, none⟩ = some (.int .i64 (m : Int)) := LR.cell 2 _ rfl
  have c3 : W1.cell? ⟨R, 3, none⟩ = some (.int .i64 0) := LR.cell 3 _ rfl
  have hr : rdI s d e a m = .no 10 a := by
    obtain ⟨d', rfl⟩ : ∃ d', d = d' + 1 := ⟨d - 1, by omega⟩
    unfold rdI
    rw [rdItem]
    unfold rdStep
    rw [if_neg (by omega), if_pos hc2]
  rw [hr]
  replace LS := Lib.hid LS
  replace LR := Lib.hid LR
  replace Q := Lib.hid Q
  clear hr hR
  generalize hdI : ((16 - d : Nat) : Int) = dI
  have hdd : ¬ (16 : Int) ≤ dI := by omega
  have hmm : ¬ (5000 : Int) ≤ (m : Int) := by omega
  have hae : (e : Int) ≤ (a : Int) := by omega
  have haN : decide (e ≤ a) = true := by rw [decide_eq_true_eq]; omega
  clear hdI he ha hm hd hd2 hc hc2
  go_enter Tryz.func41, Tryz.ntmps41
  have HF := Lib.hid (show Calls Tryz.prog 42 #[.pointer (some ⟨R, 0, none⟩), .int .i64 10, .int .i64 (a : Int)] W1 _ from fail_first s R a m 10 a W1 LR.out)
  go_wp2_with fail
  refine HF.out.mono ?_
  rintro _ y ⟨rfl, hy, hg⟩
  have HRy := Lib.hid hy
  have GY := Lib.hid (show w.grownBy y (some R) from grown_trans (grown_of_below Q.out (some R)) hg)
  have LSy := Lib.hid (LS.out.sr hg (by omega))
  have d2 : y.cell? ⟨R, 2, none⟩ = some (.int .i64 (m : Int)) := hy.cell 2 _ rfl
  have d3 : y.cell? ⟨R, 3, none⟩ = some (.int .i64 10) := hy.cell 3 _ rfl
  clear hy hg HF c1 c2 c3
  have x0 := LSy.out.cell 0 _ rfl
  have x1 := LSy.out.cell 1 _ rfl
  have x2 := LSy.out.cell 2 _ rfl
  have f0 := LSy.out.frozen 0
  have f1 := LSy.out.frozen 1
  have f2 := LSy.out.frozen 2
  have S := Lib.hid (((LSy.out.set 0 (.bool false)).set 1 (.string ⟨#[]⟩)).set 2 (.slice none 0 0))
  have HRz := Lib.hid (((HRy.out.other (p := ⟨w.heap.size, 0, none⟩) (by show R ≠ w.heap.size; omega) (.bool false)).other (p := ⟨w.heap.size, 1, none⟩) (by show R ≠ w.heap.size; omega) (.string ⟨#[]⟩)).other (p := ⟨w.heap.size, 2, none⟩) (by show R ≠ w.heap.size; omega) (.slice none 0 0))
  have GZ := Lib.hid (grown_set (grown_set (grown_set GY.out (p := ⟨w.heap.size, 0, none⟩) (.inr (Nat.le_refl _)) (.bool false)) (p := ⟨w.heap.size, 1, none⟩) (.inr (Nat.le_refl _)) (.string ⟨#[]⟩)) (p := ⟨w.heap.size, 2, none⟩) (.inr (Nat.le_refl _)) (.slice none 0 0))
  go_wp2_with fail
  have z0 := S.out.cell 0 _ rfl
  have z1 := S.out.cell 1 _ rfl
  have z2 := S.out.cell 2 _ rfl
  refine bodyPost_ret (v := .agg #[.bool false, .string ⟨#[]⟩, .slice none 0 0]) (by simp [results, Tryz.results41, go_sem, z0, z1, z2]) rfl ⟨_, rfl, ?_, GZ.out⟩
  exact ⟨⟨_, _, _, _, _, rfl⟩, by decide, _, HRz.out⟩
theorem ones_text (b : ByteArray) : ∀ u ∈ ([.bool false, .string b, .slice none 0 0] : List Value), u.oneCell' = true := by simp [Value.oneCell']
set_option maxRecDepth 100000 in
set_option maxHeartbeats 4000000 in
theorem rf_byte (s : ByteArray) (R d e a m c : Nat) (w : World) (hR : Has w R 74 (stC s a m 0)) (hs : s.size ≤ 1099511627776) (he : e ≤ s.size) (ha : a < e) (hm : m < 5000) (hd : 1 ≤ d) (hd2 : d ≤ 16) (hbc : byteAt s.data.toList a = c) (hc : c < 128) :
    Calls Tryz.prog 41 #[.pointer (some ⟨R, 0, none⟩), .int .i64 (e : Int), .int .i64 ((16 - d : Nat) : Int)] w (RdP s R w (.ok (.mk false ⟨((s.data.toList.drop a).take 1).toArray⟩ []) (a + 1) (m + 1))) := by
  have hmx : Tryz.prog.follows .mixedOrders = true := by kernel_rfl
  have LS := Has.new w 29 #[.bool false, .string ⟨#[]⟩, .slice none 0 0]
  have LR := hR.alloc (.cells #[.bool false, .string ⟨#[]⟩, .slice none 0 0] 29)
  have Q := (Below.refl w.heap.size w).alloc (Nat.le_refl _) (.cells #[.bool false, .string ⟨#[]⟩, .slice none 0 0] 29)
  have hRlt := hR.lt
  obtain ⟨W1, hW1⟩ : ∃ W1, w.alloc (.cells #[.bool false, .string ⟨#[]⟩, .slice none 0 0] 29) = W1 := ⟨_, rfl⟩
  rw [hW1] at LS LR Q
  have haI0 : (0 : Int) ≤ (a : Int) := by omega
  have haI1 : (a : Int) ≤ 1099511627776 := by omega
  have hmI0 : (0 : Int) ≤ (m : Int) := by omega
  have hmI1 : (m : Int) ≤ 5000 := by omega
  have c1 : W1.cell? ⟨R, 1, none⟩ = some (.int .i64 (a : Int)) := LR.cell 1 _ rfl
  have c2 : W1.cell? ⟨R, 2, none⟩ = some (.int .i64 (m : Int)) := LR.cell 2 _ rfl
  have c3 : W1.cell? ⟨R, 3, none⟩ = some (.int .i64 0) := LR.cell 3 _ rfl
  have hal : a < s.size := by omega
  have hbv : (((s[a]'hal).toNat : Nat) : Int) = (c : Int) := by rw [byte_idx' hal, hbc]
  have hcb := byteAt_lt s.data.toList a
  have hcI0 : (0 : Int) ≤ (c : Int) := by omega
  have hcI1 : (c : Int) ≤ 255 := by omega
  have haI3 : (a : Int) < (s.size : Int) := by omega
  have hta : ((a : Int)).toNat = a := by omega
  have hae : ¬ (e : Int) ≤ (a : Int) := by omega
  have haN : decide (e ≤ a) = false := by rw [decide_eq_false_iff_not]; omega
  have hmm : ¬ (5000 : Int) ≤ (m : Int) := by omega
  generalize hdI : ((16 - d : Nat) : Int) = dI
  have hdd : ¬ (16 : Int) ≤ dI := by omega
  have hdI0 : (0 : Int) ≤ dI := by omega
  have c0 : W1.cell? ⟨R, 0, none⟩ = some (.string s) := LR.cell 0 _ rfl
  have y2 := LR.frozen 2
  have LR2 := LR.set 2 (.int .i64 ((m : Int) + 1))
  have LS2 := LS.other (p := ⟨R, 2, none⟩) (by show w.heap.size ≠ R; omega) (.int .i64 ((m : Int) + 1))
  have G2 := grown_set' (grown_of_below Q (some R)) 2 (.int .i64 ((m : Int) + 1))
  obtain ⟨W2, hW2⟩ : ∃ W2, W1.setCell ⟨R, 2, none⟩ (.int .i64 ((m : Int) + 1)) = W2 := ⟨_, rfl⟩
  rw [hW2] at LR2 LS2 G2
  have LR2' : Has W2 R 74 (stC s a (m + 1) 0) := LR2
  have b0 : W2.cell? ⟨R, 0, none⟩ = some (.string s) := LR2'.cell 0 _ rfl
  have b1 : W2.cell? ⟨R, 1, none⟩ = some (.int .i64 (a : Int)) := LR2'.cell 1 _ rfl
  have y1 := LR2'.frozen 1
  have hex := extract_mk' s a (a + 1)
  rw [show a + 1 - a = 1 by omega] at hex
  rw [← hex]
  have hexs : (s.extract a (a + 1)).size ≤ 140737488355328 := by rw [ByteArray.size_extract]; omega
  have t1 : ((a : Int) + 1).toNat = a + 1 := by omega
  have hsl : ∀ W : World, (Instr.slice 9 (.string s) (some (.int .i64 (a : Int))) (some (.int .i64 ((a : Int) + 1))) none).run Tryz.prog W = .ok (.string (s.extract a (a + 1))) W := fun W => by
    rw [run_slice_string_if W _ _ _ _ _ _ Tryz.underlying9, if_pos (by omega), if_pos (by omega), t1, hta]
  clear hex
  obtain ⟨ex, hexe⟩ : ∃ ex, s.extract a (a + 1) = ex := ⟨_, rfl⟩
  rw [hexe] at hexs hsl ⊢
  have hcI : (c : Int) < 128 := by omega
  have LR3 := LR2'.set 1 (.int .i64 ((a : Int) + 1))
  have LS3 := LS2.other (p := ⟨R, 1, none⟩) (by show w.heap.size ≠ R; omega) (.int .i64 ((a : Int) + 1))
  have G3 := grown_set' G2 1 (.int .i64 ((a : Int) + 1))
  obtain ⟨W3, hW3⟩ : ∃ W3, W2.setCell ⟨R, 1, none⟩ (.int .i64 ((a : Int) + 1)) = W3 := ⟨_, rfl⟩
  rw [hW3] at LR3 LS3 G3
  have LR3' : Has W3 R 74 (stC s (a + 1) (m + 1) 0) := LR3
  have e0 : W3.cell? ⟨R, 0, none⟩ = some (.string s) := LR3'.cell 0 _ rfl
  have LRQ := Lib.hid LR3'
  have LSQ := Lib.hid LS3
  have GQ := Lib.hid G3
  have HEX := Lib.hid hexs
  clear LR LS Q LR2 LS2 G2 LR2' LR3 LS3 G3 LR3' hexe hR hs he ha hm hd hd2 hbc hc hcb hexs
  go_enter Tryz.func41, Tryz.ntmps41
  go_wp2_with fail
  refine (refText_any ex W3).mono ?_
  rintro _ y ⟨rfl, hb⟩
  have HRy := Lib.hid (LRQ.out.later hb)
  have LSy := Lib.hid (LSQ.out.later hb)
  have GY := Lib.hid (grown_then_below GQ.out hb)
  clear hb LRQ LSQ GQ

  have x0 := LSy.out.cell 0 _ rfl
  have x1 := LSy.out.cell 1 _ rfl
  have x2 := LSy.out.cell 2 _ rfl
  have f0 := LSy.out.frozen 0
  have f1 := LSy.out.frozen 1
  have f2 := LSy.out.frozen 2
  have S := Lib.hid (((LSy.out.set 0 (.bool false)).set 1 (.string ex)).set 2 (.slice none 0 0))
  have HRz := Lib.hid (((HRy.out.other (p := ⟨w.heap.size, 0, none⟩) (by show R ≠ w.heap.size; omega) (.bool false)).other (p := ⟨w.heap.size, 1, none⟩) (by show R ≠ w.heap.size; omega) (.string ex)).other (p := ⟨w.heap.size, 2, none⟩) (by show R ≠ w.heap.size; omega) (.slice none 0 0))
  have GZ := Lib.hid (grown_set (grown_set (grown_set GY.out (p := ⟨w.heap.size, 0, none⟩) (.inr (Nat.le_refl _)) (.bool false)) (p := ⟨w.heap.size, 1, none⟩) (.inr (Nat.le_refl _)) (.string ex)) (p := ⟨w.heap.size, 2, none⟩) (.inr (Nat.le_refl _)) (.slice none 0 0))
  go_wp2_with fail
  have z0 := S.out.cell 0 _ rfl
  have z1 := S.out.cell 1 _ rfl
  have z2 := S.out.cell 2 _ rfl
  refine bodyPost_ret (v := .agg #[.bool false, .string ex, .slice none 0 0]) (by simp [results, Tryz.results41, go_sem, z0, z1, z2]) rfl ⟨_, rfl, ?_, GZ.out⟩
  exact ⟨txtS ex HEX.out _ _, HRz.out⟩
set_option maxRecDepth 100000 in
set_option maxHeartbeats 4000000 in
theorem rf_head128_no (s : ByteArray) (R d e a m c q p : Nat) (w : World) (hR : Has w R 74 (stC s a m 0)) (hs : s.size ≤ 1099511627776) (he : e ≤ s.size) (ha : a < e) (hm : m < 5000) (hd : 1 ≤ d) (hd2 : d ≤ 16) (hbc : byteAt s.data.toList a = c) (hc : 128 ≤ c) (hc2 : c < 192) (hh : rdHead s.data.toList (c - 128) e a = .no q p) :
    Calls Tryz.prog 41 #[.pointer (some ⟨R, 0, none⟩), .int .i64 (e : Int), .int .i64 ((16 - d : Nat) : Int)] w (RdP s R w (.no q p)) := by
  have hmx : Tryz.prog.follows .mixedOrders = true := by kernel_rfl
  have LS := Has.new w 29 #[.bool false, .string ⟨#[]⟩, .slice none 0 0]
  have LR := hR.alloc (.cells #[.bool false, .string ⟨#[]⟩, .slice none 0 0] 29)
  have Q := (Below.refl w.heap.size w).alloc (Nat.le_refl _) (.cells #[.bool false, .string ⟨#[]⟩, .slice none 0 0] 29)
  have hRlt := hR.lt
  obtain ⟨W1, hW1⟩ : ∃ W1, w.alloc (.cells #[.bool false, .string ⟨#[]⟩, .slice none 0 0] 29) = W1 := ⟨_, rfl⟩
  rw [hW1] at LS LR Q
  have haI0 : (0 : Int) ≤ (a : Int) := by omega
  have haI1 : (a : Int) ≤ 1099511627776 := by omega
  have hmI0 : (0 : Int) ≤ (m : Int) := by omega
  have hmI1 : (m : Int) ≤ 5000 := by omega
  have c1 : W1.cell? ⟨R, 1, none⟩ = some (.int .i64 (a : Int)) := LR.cell 1 _ rfl
  have c2 : W1.cell? ⟨R, 2, none⟩ = some (.int .i64 (m : Int)) := LR.cell 2 _ rfl
  have c3 : W1.cell? ⟨R, 3, none⟩ = some (.int .i64 0) := LR.cell 3 _ rfl
  have hal : a < s.size := by omega
  have hbv : (((s[a]'hal).toNat : Nat) : Int) = (c : Int) := by rw [byte_idx' hal, hbc]
  have hcb := byteAt_lt s.data.toList a
  have hcI0 : (0 : Int) ≤ (c : Int) := by omega
  have hcI1 : (c : Int) ≤ 255 := by omega
  have haI3 : (a : Int) < (s.size : Int) := by omega
  have hta : ((a : Int)).toNat = a := by omega
  have hae : ¬ (e : Int) ≤ (a : Int) := by omega
  have haN : decide (e ≤ a) = false := by rw [decide_eq_false_iff_not]; omega
  have hmm : ¬ (5000 : Int) ≤ (m : Int) := by omega
  generalize hdI : ((16 - d : Nat) : Int) = dI
  have hdd : ¬ (16 : Int) ≤ dI := by omega
  have hdI0 : (0 : Int) ≤ dI := by omega
  have c0 : W1.cell? ⟨R, 0, none⟩ = some (.string s) := LR.cell 0 _ rfl
  have y2 := LR.frozen 2
  have LR2 := LR.set 2 (.int .i64 ((m : Int) + 1))
  have LS2 := LS.other (p := ⟨R, 2, none⟩) (by show w.heap.size ≠ R; omega) (.int .i64 ((m : Int) + 1))
  have G2 := grown_set' (grown_of_below Q (some R)) 2 (.int .i64 ((m : Int) + 1))
  obtain ⟨W2, hW2⟩ : ∃ W2, W1.setCell ⟨R, 2, none⟩ (.int .i64 ((m : Int) + 1)) = W2 := ⟨_, rfl⟩
  rw [hW2] at LR2 LS2 G2
  have LR2' : Has W2 R 74 (stC s a (m + 1) 0) := LR2
  have b0 : W2.cell? ⟨R, 0, none⟩ = some (.string s) := LR2'.cell 0 _ rfl
  have b1 : W2.cell? ⟨R, 1, none⟩ = some (.int .i64 (a : Int)) := LR2'.cell 1 _ rfl
  have y1 := LR2'.frozen 1
  have hcI : ¬ (c : Int) < 128 := by omega
  have hcI2 : ¬ (192 : Int) ≤ (c : Int) := by omega
  have HZ := Lib.hid (show Calls Tryz.prog 61 #[.pointer (some ⟨R, 0, none⟩), .int .i64 128, .int .i64 (e : Int)] W2 (SzP s R W2 (c - 128) e a (m + 1)) from by
    by_cases h : c - 128 ≤ 55
    · exact size_small s R a (m + 1) e 128 (c - 128) W2 LR2' hs he ha (by omega) (by rw [hbc]; omega) h
    · exact size_great s R a (m + 1) e 128 (c - 128) W2 LR2' hs he ha (by omega) (by rw [hbc]; omega) h (by omega))
  have HH := Lib.hid hh
  have heI : (e : Int) ≤ 1099511627776 := by omega
  have HRG := Lib.hid (And.intro hs he)
  replace LR := Lib.hid LR
  replace LS := Lib.hid LS
  replace Q := Lib.hid Q
  replace LS2 := Lib.hid LS2
  replace G2 := Lib.hid G2
  replace LR2 := Lib.hid LR2
  clear LR2' hR hs ha hm hd hd2 hbc hc hc2 hcb hh
  go_enter Tryz.func41, Tryz.ntmps41
  go_wp2_with fail
  refine HZ.out.mono ?_
  rintro _ y0 ⟨z, a1, x, rfl, hy, hg, hz, hcase⟩
  have HCASE := Lib.hid hcase
  have hz0 : (0 : Int) ≤ (z : Int) := by omega
  have hzI : (z : Int) ≤ 281474976710656 := by omega
  have LS0 := Lib.hid (LS2.out.sr hg (by omega))
  have G0 := Lib.hid (grown_trans G2.out hg)
  have HR0 := Lib.hid hy
  have k0 : y0.cell? ⟨R, 0, none⟩ = some (.string s) := hy.cell 0 _ rfl
  have k1 : y0.cell? ⟨R, 1, none⟩ = some (.int .i64 (a1 : Int)) := hy.cell 1 _ rfl
  have k3 : y0.cell? ⟨R, 3, none⟩ = some (.int .i64 (x : Int)) := hy.cell 3 _ rfl
  clear hz hy hg hcase c0 c1 c2 c3 b0 b1 y1 y2 hW1 hW2 HZ
  have hcase2 : (x = 0 ∧ q = 10 ∧ p = a ∧ a < a1 ∧ a1 ≤ e ∧ e < a1 + z) ∨ (x ≠ 0 ∧ x = q ∧ a1 = p) := by
    have h := HCASE.out
    rw [HH.out] at h
    rcases h with ⟨h1, h2, h3, ⟨h4, _⟩ | ⟨h4, h5⟩⟩ | ⟨h1, h2⟩
    · cases h4
    · injection h4 with h4 h6
      exact .inl ⟨h1, h4, h6, h2, h3, h5⟩
    · injection h2 with h2 h3
      exact .inr ⟨h1, h2.symm, h3.symm⟩
  clear HCASE
  rcases hcase2 with ⟨rfl, rfl, rfl, h2, h3, h5⟩ | ⟨h1, rfl, rfl⟩
  · have haa : (a1 : Int) ≤ 1099511627776 := by omega
    have haa0 : (0 : Int) ≤ (a1 : Int) := by omega
    have hlt : (e : Int) - (a1 : Int) < (z : Int) := by omega
    have k3' : y0.cell? ⟨R, 3, none⟩ = some (.int .i64 0) := k3
    have HF := Lib.hid (show Calls Tryz.prog 42 #[.pointer (some ⟨R, 0, none⟩), .int .i64 10, .int .i64 (p : Int)] y0 _ from fail_first s R a1 (m + 1) 10 p y0 HR0.out)
    clear k3 h2 h3 h5
    go_wp2_with fail
    refine HF.out.mono ?_
    rintro _ y ⟨rfl, hy, hg⟩
    have LSy := Lib.hid (LS0.out.sr hg (by omega))
    have GY := Lib.hid (grown_trans G0.out hg)
    have HRy := Lib.hid hy
    have d3 : y.cell? ⟨R, 3, none⟩ = some (.int .i64 10) := hy.cell 3 _ rfl
    clear hy hg HF k0 k1 k3'
    have x0 := LSy.out.cell 0 _ rfl
    have x1 := LSy.out.cell 1 _ rfl
    have x2 := LSy.out.cell 2 _ rfl
    have f0 := LSy.out.frozen 0
    have f1 := LSy.out.frozen 1
    have f2 := LSy.out.frozen 2
    have S := Lib.hid (((LSy.out.set 0 (.bool false)).set 1 (.string ⟨#[]⟩)).set 2 (.slice none 0 0))
    have HRz := Lib.hid (((HRy.out.other (p := ⟨w.heap.size, 0, none⟩) (by show R ≠ w.heap.size; omega) (.bool false)).other (p := ⟨w.heap.size, 1, none⟩) (by show R ≠ w.heap.size; omega) (.string ⟨#[]⟩)).other (p := ⟨w.heap.size, 2, none⟩) (by show R ≠ w.heap.size; omega) (.slice none 0 0))
    have GZ := Lib.hid (grown_set (grown_set (grown_set GY.out (p := ⟨w.heap.size, 0, none⟩) (.inr (Nat.le_refl _)) (.bool false)) (p := ⟨w.heap.size, 1, none⟩) (.inr (Nat.le_refl _)) (.string ⟨#[]⟩)) (p := ⟨w.heap.size, 2, none⟩) (.inr (Nat.le_refl _)) (.slice none 0 0))
    go_wp2_with fail
    have z0 := S.out.cell 0 _ rfl
    have z1 := S.out.cell 1 _ rfl
    have z2 := S.out.cell 2 _ rfl
    refine bodyPost_ret (v := .agg #[.bool false, .string ⟨#[]⟩, .slice none 0 0]) (by simp [results, Tryz.results41, go_sem, z0, z1, z2]) rfl ⟨_, rfl, ?_, GZ.out⟩
    exact ⟨⟨_, _, _, _, _, rfl⟩, by decide, _, HRz.out⟩
  · have hx : ((x : Int) == 0) = false := by rw [beq_eq_false_iff_ne]; omega
    have hx2 : ((x : Int) != 0) = true := by rw [bne_iff_ne]; omega
    have LSy := LS0
    have GY := G0
    have HRy := HR0
    have H1 := Lib.hid h1
    clear h1
    have x0 := LSy.out.cell 0 _ rfl
    have x1 := LSy.out.cell 1 _ rfl
    have x2 := LSy.out.cell 2 _ rfl
    have f0 := LSy.out.frozen 0
    have f1 := LSy.out.frozen 1
    have f2 := LSy.out.frozen 2
    have S := Lib.hid (((LSy.out.set 0 (.bool false)).set 1 (.string ⟨#[]⟩)).set 2 (.slice none 0 0))
    have HRz := Lib.hid (((HRy.out.other (p := ⟨w.heap.size, 0, none⟩) (by show R ≠ w.heap.size; omega) (.bool false)).other (p := ⟨w.heap.size, 1, none⟩) (by show R ≠ w.heap.size; omega) (.string ⟨#[]⟩)).other (p := ⟨w.heap.size, 2, none⟩) (by show R ≠ w.heap.size; omega) (.slice none 0 0))
    have GZ := Lib.hid (grown_set (grown_set (grown_set GY.out (p := ⟨w.heap.size, 0, none⟩) (.inr (Nat.le_refl _)) (.bool false)) (p := ⟨w.heap.size, 1, none⟩) (.inr (Nat.le_refl _)) (.string ⟨#[]⟩)) (p := ⟨w.heap.size, 2, none⟩) (.inr (Nat.le_refl _)) (.slice none 0 0))
    go_wp2_with fail
    have z0 := S.out.cell 0 _ rfl
    have z1 := S.out.cell 1 _ rfl
    have z2 := S.out.cell 2 _ rfl
    refine bodyPost_ret (v := .agg #[.bool false, .string ⟨#[]⟩, .slice none 0 0]) (by simp [results, Tryz.results41, go_sem, z0, z1, z2]) rfl ⟨_, rfl, ?_, GZ.out⟩
    exact ⟨⟨_, _, _, _, _, rfl⟩, H1.out, _, HRz.out⟩
set_option maxRecDepth 100000 in
set_option maxHeartbeats 4000000 in
theorem rf_head192_no (s : ByteArray) (R d e a m c q p : Nat) (w : World) (hR : Has w R 74 (stC s a m 0)) (hs : s.size ≤ 1099511627776) (he : e ≤ s.size) (ha : a < e) (hm : m < 5000) (hd : 1 ≤ d) (hd2 : d ≤ 16) (hbc : byteAt s.data.toList a = c) (hc : 192 ≤ c) (hc2 : c < 256) (hh : rdHead s.data.toList (c - 192) e a = .no q p) :
    Calls Tryz.prog 41 #[.pointer (some ⟨R, 0, none⟩), .int .i64 (e : Int), .int .i64 ((16 - d : Nat) : Int)] w (RdP s R w (.no q p)) := by
  have hmx : Tryz.prog.follows .mixedOrders = true := by kernel_rfl
  have LS := Has.new w 29 #[.bool false, .string ⟨#[]⟩, .slice none 0 0]
  have LR := hR.alloc (.cells #[.bool false, .string ⟨#[]⟩, .slice none 0 0] 29)
  have Q := (Below.refl w.heap.size w).alloc (Nat.le_refl _) (.cells #[.bool false, .string ⟨#[]⟩, .slice none 0 0] 29)
  have hRlt := hR.lt
  obtain ⟨W1, hW1⟩ : ∃ W1, w.alloc (.cells #[.bool false, .string ⟨#[]⟩, .slice none 0 0] 29) = W1 := ⟨_, rfl⟩
  rw [hW1] at LS LR Q
  have haI0 : (0 : Int) ≤ (a : Int) := by omega
  have haI1 : (a : Int) ≤ 1099511627776 := by omega
  have hmI0 : (0 : Int) ≤ (m : Int) := by omega
  have hmI1 : (m : Int) ≤ 5000 := by omega
  have c1 : W1.cell? ⟨R, 1, none⟩ = some (.int .i64 (a : Int)) := LR.cell 1 _ rfl
  have c2 : W1.cell? ⟨R, 2, none⟩ = some (.int .i64 (m : Int)) := LR.cell 2 _ rfl
  have c3 : W1.cell? ⟨R, 3, none⟩ = some (.int .i64 0) := LR.cell 3 _ rfl
  have hal : a < s.size := by omega
  have hbv : (((s[a]'hal).toNat : Nat) : Int) = (c : Int) := by rw [byte_idx' hal, hbc]
  have hcb := byteAt_lt s.data.toList a
  have hcI0 : (0 : Int) ≤ (c : Int) := by omega
  have hcI1 : (c : Int) ≤ 255 := by omega
  have haI3 : (a : Int) < (s.size : Int) := by omega
  have hta : ((a : Int)).toNat = a := by omega
  have hae : ¬ (e : Int) ≤ (a : Int) := by omega
  have haN : decide (e ≤ a) = false := by rw [decide_eq_false_iff_not]; omega
  have hmm : ¬ (5000 : Int) ≤ (m : Int) := by omega
  generalize hdI : ((16 - d : Nat) : Int) = dI
  have hdd : ¬ (16 : Int) ≤ dI := by omega
  have hdI0 : (0 : Int) ≤ dI := by omega
  have c0 : W1.cell? ⟨R, 0, none⟩ = some (.string s) := LR.cell 0 _ rfl
  have y2 := LR.frozen 2
  have LR2 := LR.set 2 (.int .i64 ((m : Int) + 1))
  have LS2 := LS.other (p := ⟨R, 2, none⟩) (by show w.heap.size ≠ R; omega) (.int .i64 ((m : Int) + 1))
  have G2 := grown_set' (grown_of_below Q (some R)) 2 (.int .i64 ((m : Int) + 1))
  obtain ⟨W2, hW2⟩ : ∃ W2, W1.setCell ⟨R, 2, none⟩ (.int .i64 ((m : Int) + 1)) = W2 := ⟨_, rfl⟩
  rw [hW2] at LR2 LS2 G2
  have LR2' : Has W2 R 74 (stC s a (m + 1) 0) := LR2
  have b0 : W2.cell? ⟨R, 0, none⟩ = some (.string s) := LR2'.cell 0 _ rfl
  have b1 : W2.cell? ⟨R, 1, none⟩ = some (.int .i64 (a : Int)) := LR2'.cell 1 _ rfl
  have y1 := LR2'.frozen 1
  have hcI : ¬ (c : Int) < 128 := by omega
  have hcI2 : (192 : Int) ≤ (c : Int) := by omega
  have HZ := Lib.hid (show Calls Tryz.prog 61 #[.pointer (some ⟨R, 0, none⟩), .int .i64 192, .int .i64 (e : Int)] W2 (SzP s R W2 (c - 192) e a (m + 1)) from by
    by_cases h : c - 192 ≤ 55
    · exact size_small s R a (m + 1) e 192 (c - 192) W2 LR2' hs he ha (by omega) (by rw [hbc]; omega) h
    · exact size_great s R a (m + 1) e 192 (c - 192) W2 LR2' hs he ha (by omega) (by rw [hbc]; omega) h (by omega))
  have HH := Lib.hid hh
  have heI : (e : Int) ≤ 1099511627776 := by omega
  have HRG := Lib.hid (And.intro hs he)
  replace LR := Lib.hid LR
  replace LS := Lib.hid LS
  replace Q := Lib.hid Q
  replace LS2 := Lib.hid LS2
  replace G2 := Lib.hid G2
  replace LR2 := Lib.hid LR2
  clear LR2' hR hs ha hm hd hd2 hbc hc hc2 hcb hh
  go_enter Tryz.func41, Tryz.ntmps41
  go_wp2_with fail
  refine HZ.out.mono ?_
  rintro _ y0 ⟨z, a1, x, rfl, hy, hg, hz, hcase⟩
  have HCASE := Lib.hid hcase
  have hz0 : (0 : Int) ≤ (z : Int) := by omega
  have hzI : (z : Int) ≤ 281474976710656 := by omega
  have LS0 := Lib.hid (LS2.out.sr hg (by omega))
  have G0 := Lib.hid (grown_trans G2.out hg)
  have HR0 := Lib.hid hy
  have k0 : y0.cell? ⟨R, 0, none⟩ = some (.string s) := hy.cell 0 _ rfl
  have k1 : y0.cell? ⟨R, 1, none⟩ = some (.int .i64 (a1 : Int)) := hy.cell 1 _ rfl
  have k3 : y0.cell? ⟨R, 3, none⟩ = some (.int .i64 (x : Int)) := hy.cell 3 _ rfl
  clear hz hy hg hcase c0 c1 c2 c3 b0 b1 y1 y2 hW1 hW2 HZ
  have hcase2 : (x = 0 ∧ q = 10 ∧ p = a ∧ a < a1 ∧ a1 ≤ e ∧ e < a1 + z) ∨ (x ≠ 0 ∧ x = q ∧ a1 = p) := by
    have h := HCASE.out
    rw [HH.out] at h
    rcases h with ⟨h1, h2, h3, ⟨h4, _⟩ | ⟨h4, h5⟩⟩ | ⟨h1, h2⟩
    · cases h4
    · injection h4 with h4 h6
      exact .inl ⟨h1, h4, h6, h2, h3, h5⟩
    · injection h2 with h2 h3
      exact .inr ⟨h1, h2.symm, h3.symm⟩
  clear HCASE
  rcases hcase2 with ⟨rfl, rfl, rfl, h2, h3, h5⟩ | ⟨h1, rfl, rfl⟩
  · have haa : (a1 : Int) ≤ 1099511627776 := by omega
    have haa0 : (0 : Int) ≤ (a1 : Int) := by omega
    have hlt : (e : Int) - (a1 : Int) < (z : Int) := by omega
    have k3' : y0.cell? ⟨R, 3, none⟩ = some (.int .i64 0) := k3
    have HF := Lib.hid (show Calls Tryz.prog 42 #[.pointer (some ⟨R, 0, none⟩), .int .i64 10, .int .i64 (p : Int)] y0 _ from fail_first s R a1 (m + 1) 10 p y0 HR0.out)
    clear k3 h2 h3 h5
    go_wp2_with fail
    refine HF.out.mono ?_
    rintro _ y ⟨rfl, hy, hg⟩
    have LSy := Lib.hid (LS0.out.sr hg (by omega))
    have GY := Lib.hid (grown_trans G0.out hg)
    have HRy := Lib.hid hy
    have d3 : y.cell? ⟨R, 3, none⟩ = some (.int .i64 10) := hy.cell 3 _ rfl
    clear hy hg HF k0 k1 k3'
    have x0 := LSy.out.cell 0 _ rfl
    have x1 := LSy.out.cell 1 _ rfl
    have x2 := LSy.out.cell 2 _ rfl
    have f0 := LSy.out.frozen 0
    have f1 := LSy.out.frozen 1
    have f2 := LSy.out.frozen 2
    have S := Lib.hid (((LSy.out.set 0 (.bool false)).set 1 (.string ⟨#[]⟩)).set 2 (.slice none 0 0))
    have HRz := Lib.hid (((HRy.out.other (p := ⟨w.heap.size, 0, none⟩) (by show R ≠ w.heap.size; omega) (.bool false)).other (p := ⟨w.heap.size, 1, none⟩) (by show R ≠ w.heap.size; omega) (.string ⟨#[]⟩)).other (p := ⟨w.heap.size, 2, none⟩) (by show R ≠ w.heap.size; omega) (.slice none 0 0))
    have GZ := Lib.hid (grown_set (grown_set (grown_set GY.out (p := ⟨w.heap.size, 0, none⟩) (.inr (Nat.le_refl _)) (.bool false)) (p := ⟨w.heap.size, 1, none⟩) (.inr (Nat.le_refl _)) (.string ⟨#[]⟩)) (p := ⟨w.heap.size, 2, none⟩) (.inr (Nat.le_refl _)) (.slice none 0 0))
    go_wp2_with fail
    have z0 := S.out.cell 0 _ rfl
    have z1 := S.out.cell 1 _ rfl
    have z2 := S.out.cell 2 _ rfl
    refine bodyPost_ret (v := .agg #[.bool false, .string ⟨#[]⟩, .slice none 0 0]) (by simp [results, Tryz.results41, go_sem, z0, z1, z2]) rfl ⟨_, rfl, ?_, GZ.out⟩
    exact ⟨⟨_, _, _, _, _, rfl⟩, by decide, _, HRz.out⟩
  · have hx : ((x : Int) == 0) = false := by rw [beq_eq_false_iff_ne]; omega
    have hx2 : ((x : Int) != 0) = true := by rw [bne_iff_ne]; omega
    have LSy := LS0
    have GY := G0
    have HRy := HR0
    have H1 := Lib.hid h1
    clear h1
    have x0 := LSy.out.cell 0 _ rfl
    have x1 := LSy.out.cell 1 _ rfl
    have x2 := LSy.out.cell 2 _ rfl
    have f0 := LSy.out.frozen 0
    have f1 := LSy.out.frozen 1
    have f2 := LSy.out.frozen 2
    have S := Lib.hid (((LSy.out.set 0 (.bool false)).set 1 (.string ⟨#[]⟩)).set 2 (.slice none 0 0))
    have HRz := Lib.hid (((HRy.out.other (p := ⟨w.heap.size, 0, none⟩) (by show R ≠ w.heap.size; omega) (.bool false)).other (p := ⟨w.heap.size, 1, none⟩) (by show R ≠ w.heap.size; omega) (.string ⟨#[]⟩)).other (p := ⟨w.heap.size, 2, none⟩) (by show R ≠ w.heap.size; omega) (.slice none 0 0))
    have GZ := Lib.hid (grown_set (grown_set (grown_set GY.out (p := ⟨w.heap.size, 0, none⟩) (.inr (Nat.le_refl _)) (.bool false)) (p := ⟨w.heap.size, 1, none⟩) (.inr (Nat.le_refl _)) (.string ⟨#[]⟩)) (p := ⟨w.heap.size, 2, none⟩) (.inr (Nat.le_refl _)) (.slice none 0 0))
    go_wp2_with fail
    have z0 := S.out.cell 0 _ rfl
    have z1 := S.out.cell 1 _ rfl
    have z2 := S.out.cell 2 _ rfl
    refine bodyPost_ret (v := .agg #[.bool false, .string ⟨#[]⟩, .slice none 0 0]) (by simp [results, Tryz.results41, go_sem, z0, z1, z2]) rfl ⟨_, rfl, ?_, GZ.out⟩
    exact ⟨⟨_, _, _, _, _, rfl⟩, H1.out, _, HRz.out⟩
theorem bare_piece {s : List UInt8} {fr n : Nat} (h : fr + n ≤ s.length) : bareB ((s.drop fr).take n) = (decide (n = 1) && decide (byteAt s fr < 128)) := by
  by_cases h1 : n = 1
  · subst h1
    have hl : fr < s.length := by omega
    rw [List.drop_eq_getElem_cons hl]
    show decide (s[fr].toNat < 128) = _
    rw [byteAt_get s hl]
    simp
  · rw [decide_eq_false h1, Bool.false_and]
    have hl : ((s.drop fr).take n).length = n := by rw [List.length_take, List.length_drop]; omega
    rcases hp : (s.drop fr).take n with _ | ⟨c, _ | ⟨c', r⟩⟩
    · rfl
    · rw [hp] at hl; exact absurd hl.symm h1
    · rfl
set_option maxRecDepth 100000 in
set_option maxHeartbeats 8000000 in
theorem rf_text (s : ByteArray) (R d e a m c n fr : Nat) (w : World) (hR : Has w R 74 (stC s a m 0)) (hs : s.size ≤ 1099511627776) (he : e ≤ s.size) (ha : a < e) (hm : m < 5000) (hd : 1 ≤ d) (hd2 : d ≤ 16) (hbc : byteAt s.data.toList a = c) (hc : 128 ≤ c) (hc2 : c < 192) (hh : rdHead s.data.toList (c - 128) e a = .ok n fr 0) :
    Calls Tryz.prog 41 #[.pointer (some ⟨R, 0, none⟩), .int .i64 (e : Int), .int .i64 ((16 - d : Nat) : Int)] w (RdP s R w (if bareB ((s.data.toList.drop fr).take n) then .no 11 a else .ok (.mk false ⟨((s.data.toList.drop fr).take n).toArray⟩ []) (fr + n) (m + 1))) := by
  obtain ⟨r, hr⟩ : ∃ r, (if bareB ((s.data.toList.drop fr).take n) then Rd.no 11 a else Rd.ok (It.mk false ⟨((s.data.toList.drop fr).take n).toArray⟩ []) (fr + n) (m + 1)) = r := ⟨_, rfl⟩
  rw [hr]
  have HRR := Lib.hid hr
  clear hr
  have hmx : Tryz.prog.follows .mixedOrders = true := by kernel_rfl
  have LS := Has.new w 29 #[.bool false, .string ⟨#[]⟩, .slice none 0 0]
  have LR := hR.alloc (.cells #[.bool false, .string ⟨#[]⟩, .slice none 0 0] 29)
  have Q := (Below.refl w.heap.size w).alloc (Nat.le_refl _) (.cells #[.bool false, .string ⟨#[]⟩, .slice none 0 0] 29)
  have hRlt := hR.lt
  obtain ⟨W1, hW1⟩ : ∃ W1, w.alloc (.cells #[.bool false, .string ⟨#[]⟩, .slice none 0 0] 29) = W1 := ⟨_, rfl⟩
  rw [hW1] at LS LR Q
  have haI0 : (0 : Int) ≤ (a : Int) := by omega
  have haI1 : (a : Int) ≤ 1099511627776 := by omega
  have hmI0 : (0 : Int) ≤ (m : Int) := by omega
  have hmI1 : (m : Int) ≤ 5000 := by omega
  have c1 : W1.cell? ⟨R, 1, none⟩ = some (.int .i64 (a : Int)) := LR.cell 1 _ rfl
  have c2 : W1.cell? ⟨R, 2, none⟩ = some (.int .i64 (m : Int)) := LR.cell 2 _ rfl
  have c3 : W1.cell? ⟨R, 3, none⟩ = some (.int .i64 0) := LR.cell 3 _ rfl
  have hal : a < s.size := by omega
  have hbv : (((s[a]'hal).toNat : Nat) : Int) = (c : Int) := by rw [byte_idx' hal, hbc]
  have hcb := byteAt_lt s.data.toList a
  have hcI0 : (0 : Int) ≤ (c : Int) := by omega
  have hcI1 : (c : Int) ≤ 255 := by omega
  have haI3 : (a : Int) < (s.size : Int) := by omega
  have hta : ((a : Int)).toNat = a := by omega
  have hae : ¬ (e : Int) ≤ (a : Int) := by omega
  have haN : decide (e ≤ a) = false := by rw [decide_eq_false_iff_not]; omega
  have hmm : ¬ (5000 : Int) ≤ (m : Int) := by omega
  generalize hdI : ((16 - d : Nat) : Int) = dI
  have hdd : ¬ (16 : Int) ≤ dI := by omega
  have hdI0 : (0 : Int) ≤ dI := by omega
  have c0 : W1.cell? ⟨R, 0, none⟩ = some (.string s) := LR.cell 0 _ rfl
  have y2 := LR.frozen 2
  have LR2 := LR.set 2 (.int .i64 ((m : Int) + 1))
  have LS2 := LS.other (p := ⟨R, 2, none⟩) (by show w.heap.size ≠ R; omega) (.int .i64 ((m : Int) + 1))
  have G2 := grown_set' (grown_of_below Q (some R)) 2 (.int .i64 ((m : Int) + 1))
  obtain ⟨W2, hW2⟩ : ∃ W2, W1.setCell ⟨R, 2, none⟩ (.int .i64 ((m : Int) + 1)) = W2 := ⟨_, rfl⟩
  rw [hW2] at LR2 LS2 G2
  have LR2' : Has W2 R 74 (stC s a (m + 1) 0) := LR2
  have b0 : W2.cell? ⟨R, 0, none⟩ = some (.string s) := LR2'.cell 0 _ rfl
  have b1 : W2.cell? ⟨R, 1, none⟩ = some (.int .i64 (a : Int)) := LR2'.cell 1 _ rfl
  have y1 := LR2'.frozen 1
  have hcI : ¬ (c : Int) < 128 := by omega
  have hcI2 : ¬ (192 : Int) ≤ (c : Int) := by omega
  have HZ := Lib.hid (show Calls Tryz.prog 61 #[.pointer (some ⟨R, 0, none⟩), .int .i64 128, .int .i64 (e : Int)] W2 (SzP s R W2 (c - 128) e a (m + 1)) from by
    by_cases h : c - 128 ≤ 55
    · exact size_small s R a (m + 1) e 128 (c - 128) W2 LR2' hs he ha (by omega) (by rw [hbc]; omega) h
    · exact size_great s R a (m + 1) e 128 (c - 128) W2 LR2' hs he ha (by omega) (by rw [hbc]; omega) h (by omega))
  have HH := Lib.hid hh
  have heI : (e : Int) ≤ 1099511627776 := by omega
  have HRG := Lib.hid (And.intro hs he)
  replace LR := Lib.hid LR
  replace LS := Lib.hid LS
  replace Q := Lib.hid Q
  replace LS2 := Lib.hid LS2
  replace G2 := Lib.hid G2
  replace LR2 := Lib.hid LR2
  clear LR2' hR hs ha hm hd hd2 hbc hc hc2 hcb hh
  go_enter Tryz.func41, Tryz.ntmps41
  go_wp2_with fail
  refine HZ.out.mono ?_
  rintro _ y0 ⟨z, a1, x, rfl, hy, hg, hz, hcase⟩
  have HCASE := Lib.hid hcase
  have hz0 : (0 : Int) ≤ (z : Int) := by omega
  have hzI : (z : Int) ≤ 281474976710656 := by omega
  have LS0 := Lib.hid (LS2.out.sr hg (by omega))
  have G0 := Lib.hid (grown_trans G2.out hg)
  have HR0 := Lib.hid hy
  have k0 : y0.cell? ⟨R, 0, none⟩ = some (.string s) := hy.cell 0 _ rfl
  have k1 : y0.cell? ⟨R, 1, none⟩ = some (.int .i64 (a1 : Int)) := hy.cell 1 _ rfl
  have k3 : y0.cell? ⟨R, 3, none⟩ = some (.int .i64 (x : Int)) := hy.cell 3 _ rfl
  clear hz hy hg hcase c0 c1 c2 c3 b0 b1 y1 y2 hW1 hW2 HZ
  have hcase2 : x = 0 ∧ z = n ∧ a1 = fr ∧ a < fr ∧ fr + n ≤ e := by
    have h := HCASE.out
    rw [HH.out] at h
    rcases h with ⟨h1, h2, h3, ⟨h4, h5⟩ | ⟨h4, _⟩⟩ | ⟨h1, h2⟩
    · injection h4 with h4 h6 _
      exact ⟨h1, h4.symm, h6.symm, by omega, by omega⟩
    · cases h4
    · cases h2
  clear HCASE
  obtain ⟨rfl, rfl, rfl, h2, h5⟩ := hcase2
  have hfs : a1 + z ≤ s.size := by have := HRG.out; omega
  have haa : (a1 : Int) ≤ 1099511627776 := by omega
  have haa0 : (0 : Int) ≤ (a1 : Int) := by omega
  have hz2 : (z : Int) ≤ 1099511627776 := by omega
  have hlt : ¬ (e : Int) - (a1 : Int) < (z : Int) := by omega
  have k3' : y0.cell? ⟨R, 3, none⟩ = some (.int .i64 0) := k3
  have y1 := HR0.out.frozen 1
  have hbp := bare_piece (s := s.data.toList) (fr := a1) (n := z) (by rw [← size_list]; exact hfs)
  have hex := extract_mk' s a1 (a1 + z)
  rw [show a1 + z - a1 = z by omega] at hex
  have hrr := HRR.out
  rw [hbp, ← hex] at hrr
  have hexs : (s.extract a1 (a1 + z)).size ≤ 140737488355328 := by rw [ByteArray.size_extract]; have := HRG.out; omega
  have hfsI : (a1 : Int) + (z : Int) ≤ (s.size : Int) := by omega
  have t1 : ((a1 : Int) + (z : Int)).toNat = a1 + z := by omega
  have t2 : ((a1 : Int)).toNat = a1 := by omega
  have hsl : ∀ W : World, (Instr.slice 9 (.string s) (some (.int .i64 (a1 : Int))) (some (.int .i64 ((a1 : Int) + (z : Int)))) none).run Tryz.prog W = .ok (.string (s.extract a1 (a1 + z))) W := fun W => by
    rw [run_slice_string_if W _ _ _ _ _ _ Tryz.underlying9, if_pos (by omega), if_pos (by omega), t1, t2]
  clear hex hbp
  obtain ⟨ex, hexe⟩ : ∃ ex, s.extract a1 (a1 + z) = ex := ⟨_, rfl⟩
  rw [hexe] at hexs hsl hrr
  have HRQ := Lib.hid hrr
  have HEX := Lib.hid hexs
  have HFS := Lib.hid hfs
  clear hexs k3 h2 h5 hfs hrr HRR
  by_cases hz1 : z = 1
  · subst hz1
    have hal1 : a1 < s.size := by have := HFS.out; omega
    obtain ⟨b, hb⟩ : ∃ b, byteAt s.data.toList a1 = b := ⟨_, rfl⟩
    have hbv1 : (((s[a1]'hal1).toNat : Nat) : Int) = (b : Int) := by rw [byte_idx' hal1, hb]
    have ha1I : (a1 : Int) < (s.size : Int) := by omega
    have hrq := HRQ.out
    rw [hb] at hrq
    clear hb
    by_cases hb8 : b < 128
    · have hbI : (b : Int) < 128 := by omega
      rw [decide_eq_true hb8, decide_eq_true rfl, Bool.and_true, if_pos rfl] at hrq
      have HRE := Lib.hid hrq
      clear hb8 hrq
      have HF := Lib.hid (show Calls Tryz.prog 42 #[.pointer (some ⟨R, 0, none⟩), .int .i64 11, .int .i64 (a : Int)] y0 _ from fail_first s R a1 (m + 1) 11 a y0 HR0.out)
      go_wp2_with fail
      refine HF.out.mono ?_
      rintro _ y9 ⟨rfl, hy, hg⟩
      have LS9 := LS0.out.sr hg (by omega)
      have G9 := grown_trans G0.out hg
      have q1 : y9.cell? ⟨R, 1, none⟩ = some (.int .i64 (a : Int)) := hy.cell 1 _ rfl
      have j1 := hy.frozen 1
      have LR3 := hy.set 1 (.int .i64 ((a : Int) + 1))
      have LS3 := LS9.other (p := ⟨R, 1, none⟩) (by show w.heap.size ≠ R; omega) (.int .i64 ((a : Int) + 1))
      have G3 := grown_set' G9 1 (.int .i64 ((a : Int) + 1))
      obtain ⟨W3, hW3⟩ : ∃ W3, y9.setCell ⟨R, 1, none⟩ (.int .i64 ((a : Int) + 1)) = W3 := ⟨_, rfl⟩
      rw [hW3] at LR3 LS3 G3
      have q3 : W3.cell? ⟨R, 3, none⟩ = some (.int .i64 11) := LR3.cell 3 _ rfl
      have q2 := LR3.cell 1 _ rfl
      have j2 := LR3.frozen 1
      have LR4 := LR3.set 1 (.int .i64 (a : Int))
      have LS4 := LS3.other (p := ⟨R, 1, none⟩) (by show w.heap.size ≠ R; omega) (.int .i64 (a : Int))
      have G4 := grown_set' G3 1 (.int .i64 (a : Int))
      obtain ⟨W4, hW4⟩ : ∃ W4, W3.setCell ⟨R, 1, none⟩ (.int .i64 (a : Int)) = W4 := ⟨_, rfl⟩
      rw [hW4] at LR4 LS4 G4
      have LR4' : Has W4 R 74 (stC s a (m + 1) 11) := LR4
      have e0 : W4.cell? ⟨R, 0, none⟩ = some (.string s) := LR4'.cell 0 _ rfl
      have LRQ := Lib.hid LR4'
      have LSQ := Lib.hid LS4
      have GQ := Lib.hid G4
      replace LR3 := Lib.hid LR3
      clear hy hg HF LS9 G9 LS3 G3 LR4 LS4 G4 LR4' HR0 LS0 G0 k0 k1 k3'
      go_wp2_with fail
      refine (refText_any ex W4).mono ?_
      rintro _ y ⟨rfl, hb⟩
      have HRy := Lib.hid (LRQ.out.later hb)
      have LSy := Lib.hid (LSQ.out.later hb)
      have GY := Lib.hid (grown_then_below GQ.out hb)
      clear hb LRQ LSQ GQ
      have x0 := LSy.out.cell 0 _ rfl
      have x1 := LSy.out.cell 1 _ rfl
      have x2 := LSy.out.cell 2 _ rfl
      have f0 := LSy.out.frozen 0
      have f1 := LSy.out.frozen 1
      have f2 := LSy.out.frozen 2
      have S := Lib.hid (((LSy.out.set 0 (.bool false)).set 1 (.string ex)).set 2 (.slice none 0 0))
      have HRz := Lib.hid (((HRy.out.other (p := ⟨w.heap.size, 0, none⟩) (by show R ≠ w.heap.size; omega) (.bool false)).other (p := ⟨w.heap.size, 1, none⟩) (by show R ≠ w.heap.size; omega) (.string ex)).other (p := ⟨w.heap.size, 2, none⟩) (by show R ≠ w.heap.size; omega) (.slice none 0 0))
      have GZ := Lib.hid (grown_set (grown_set (grown_set GY.out (p := ⟨w.heap.size, 0, none⟩) (.inr (Nat.le_refl _)) (.bool false)) (p := ⟨w.heap.size, 1, none⟩) (.inr (Nat.le_refl _)) (.string ex)) (p := ⟨w.heap.size, 2, none⟩) (.inr (Nat.le_refl _)) (.slice none 0 0))
      go_wp2_with fail
      have z0 := S.out.cell 0 _ rfl
      have z1 := S.out.cell 1 _ rfl
      have z2 := S.out.cell 2 _ rfl
      refine bodyPost_ret (v := .agg #[.bool false, .string ex, .slice none 0 0]) (by simp [results, Tryz.results41, go_sem, z0, z1, z2]) rfl ⟨_, rfl, ?_, GZ.out⟩
      rw [← HRE.out]
      exact ⟨⟨_, _, _, _, _, rfl⟩, by decide, _, HRz.out⟩
    · have hbI : ¬ (b : Int) < 128 := by omega
      rw [decide_eq_false hb8, Bool.and_false, if_neg (by simp)] at hrq
      have HRE := Lib.hid hrq
      clear hb8 hrq
      have LR3 := HR0.out.set 1 (.int .i64 ((a1 : Int) + 1))
      have LS3 := LS0.out.other (p := ⟨R, 1, none⟩) (by show w.heap.size ≠ R; omega) (.int .i64 ((a1 : Int) + 1))
      have G3 := grown_set' G0.out 1 (.int .i64 ((a1 : Int) + 1))
      obtain ⟨W3, hW3⟩ : ∃ W3, y0.setCell ⟨R, 1, none⟩ (.int .i64 ((a1 : Int) + 1)) = W3 := ⟨_, rfl⟩
      rw [hW3] at LR3 LS3 G3
      have LR3' : Has W3 R 74 (stC s (a1 + 1) (m + 1) 0) := LR3
      have e0 : W3.cell? ⟨R, 0, none⟩ = some (.string s) := LR3'.cell 0 _ rfl
      have e3 : W3.cell? ⟨R, 3, none⟩ = some (.int .i64 0) := LR3'.cell 3 _ rfl
      have LRQ := Lib.hid LR3'
      have LSQ := Lib.hid LS3
      have GQ := Lib.hid G3
      clear LR3 LS3 G3 LR3' HR0 LS0 G0
      go_wp2_with fail
      refine (refText_any ex W3).mono ?_
      rintro _ y ⟨rfl, hb⟩
      have HRy := Lib.hid (LRQ.out.later hb)
      have LSy := Lib.hid (LSQ.out.later hb)
      have GY := Lib.hid (grown_then_below GQ.out hb)
      clear hb LRQ LSQ GQ
      have x0 := LSy.out.cell 0 _ rfl
      have x1 := LSy.out.cell 1 _ rfl
      have x2 := LSy.out.cell 2 _ rfl
      have f0 := LSy.out.frozen 0
      have f1 := LSy.out.frozen 1
      have f2 := LSy.out.frozen 2
      have S := Lib.hid (((LSy.out.set 0 (.bool false)).set 1 (.string ex)).set 2 (.slice none 0 0))
      have HRz := Lib.hid (((HRy.out.other (p := ⟨w.heap.size, 0, none⟩) (by show R ≠ w.heap.size; omega) (.bool false)).other (p := ⟨w.heap.size, 1, none⟩) (by show R ≠ w.heap.size; omega) (.string ex)).other (p := ⟨w.heap.size, 2, none⟩) (by show R ≠ w.heap.size; omega) (.slice none 0 0))
      have GZ := Lib.hid (grown_set (grown_set (grown_set GY.out (p := ⟨w.heap.size, 0, none⟩) (.inr (Nat.le_refl _)) (.bool false)) (p := ⟨w.heap.size, 1, none⟩) (.inr (Nat.le_refl _)) (.string ex)) (p := ⟨w.heap.size, 2, none⟩) (.inr (Nat.le_refl _)) (.slice none 0 0))
      go_wp2_with fail
      have z0 := S.out.cell 0 _ rfl
      have z1 := S.out.cell 1 _ rfl
      have z2 := S.out.cell 2 _ rfl
      refine bodyPost_ret (v := .agg #[.bool false, .string ex, .slice none 0 0]) (by simp [results, Tryz.results41, go_sem, z0, z1, z2]) rfl ⟨_, rfl, ?_, GZ.out⟩
      rw [← HRE.out]
      exact ⟨txtS ex HEX.out _ _, HRz.out⟩
  · have hzI1 : ((z : Int) == 1) = false := by rw [beq_eq_false_iff_ne]; omega
    have hrq := HRQ.out
    rw [decide_eq_false hz1, Bool.false_and, if_neg (by simp)] at hrq
    have HRE := Lib.hid hrq
    clear hz1 hrq
    have LR3 := HR0.out.set 1 (.int .i64 ((a1 : Int) + (z : Int)))
    have LS3 := LS0.out.other (p := ⟨R, 1, none⟩) (by show w.heap.size ≠ R; omega) (.int .i64 ((a1 : Int) + (z : Int)))
    have G3 := grown_set' G0.out 1 (.int .i64 ((a1 : Int) + (z : Int)))
    obtain ⟨W3, hW3⟩ : ∃ W3, y0.setCell ⟨R, 1, none⟩ (.int .i64 ((a1 : Int) + (z : Int))) = W3 := ⟨_, rfl⟩
    rw [hW3] at LR3 LS3 G3
    have LR3' : Has W3 R 74 (stC s (a1 + z) (m + 1) 0) := LR3
    have e0 : W3.cell? ⟨R, 0, none⟩ = some (.string s) := LR3'.cell 0 _ rfl
    have e3 : W3.cell? ⟨R, 3, none⟩ = some (.int .i64 0) := LR3'.cell 3 _ rfl
    have LRQ := Lib.hid LR3'
    have LSQ := Lib.hid LS3
    have GQ := Lib.hid G3
    clear LR3 LS3 G3 LR3' HR0 LS0 G0
    go_wp2_with fail
    refine (refText_any ex W3).mono ?_
    rintro _ y ⟨rfl, hb⟩
    have HRy := Lib.hid (LRQ.out.later hb)
    have LSy := Lib.hid (LSQ.out.later hb)
    have GY := Lib.hid (grown_then_below GQ.out hb)
    clear hb LRQ LSQ GQ
    have x0 := LSy.out.cell 0 _ rfl
    have x1 := LSy.out.cell 1 _ rfl
    have x2 := LSy.out.cell 2 _ rfl
    have f0 := LSy.out.frozen 0
    have f1 := LSy.out.frozen 1
    have f2 := LSy.out.frozen 2
    have S := Lib.hid (((LSy.out.set 0 (.bool false)).set 1 (.string ex)).set 2 (.slice none 0 0))
    have HRz := Lib.hid (((HRy.out.other (p := ⟨w.heap.size, 0, none⟩) (by show R ≠ w.heap.size; omega) (.bool false)).other (p := ⟨w.heap.size, 1, none⟩) (by show R ≠ w.heap.size; omega) (.string ex)).other (p := ⟨w.heap.size, 2, none⟩) (by show R ≠ w.heap.size; omega) (.slice none 0 0))
    have GZ := Lib.hid (grown_set (grown_set (grown_set GY.out (p := ⟨w.heap.size, 0, none⟩) (.inr (Nat.le_refl _)) (.bool false)) (p := ⟨w.heap.size, 1, none⟩) (.inr (Nat.le_refl _)) (.string ex)) (p := ⟨w.heap.size, 2, none⟩) (.inr (Nat.le_refl _)) (.slice none 0 0))
    go_wp2_with fail
    have z0 := S.out.cell 0 _ rfl
    have z1 := S.out.cell 1 _ rfl
    have z2 := S.out.cell 2 _ rfl
    refine bodyPost_ret (v := .agg #[.bool false, .string ex, .slice none 0 0]) (by simp [results, Tryz.results41, go_sem, z0, z1, z2]) rfl ⟨_, rfl, ?_, GZ.out⟩
    rw [← HRE.out]
    exact ⟨txtS ex HEX.out _ _, HRz.out⟩
end Go.Proofs.YtbbpmcebakckaaaGreatDoor
