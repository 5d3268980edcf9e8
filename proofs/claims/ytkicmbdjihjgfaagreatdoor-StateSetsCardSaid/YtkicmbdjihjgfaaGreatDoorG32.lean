/- What StateSets sets. Conditions: none. -/
import Derived.Test.YtkicmbdjihjgfaaGreatDoorG21
import Derived.Test.YtkicmbdjihjgfaaGreatDoorG17
import Derived.Test.YtkicmbdjihjgfaaGreatDoorG22
import Derived.Test.YtkicmbdjihjgfaaGreatDoorG29
set_option maxRecDepth 100000
set_option maxHeartbeats 16000000
open List (setIfInBounds_toArray set_cons_succ set_cons_zero)
namespace Go.Proofs.YtkicmbdjihjgfaaGreatDoor
open Go Go.RowKit
theorem find_other (l : List Ac) (x : Ac) {t : Nat} (h : t ≠ x.at_) : findA (putA l x) t = findA l t := by
 have e : (putA l x).find? (fun y => decide (y.at_ = t)) = l.find? (fun y => decide (y.at_ = t)) := by
  have hx : ((if emptyB x = true then ([] : List Ac) else [x]).find? (fun y => decide (y.at_ = t))) = none := by
   split
   ·rfl
   ·rw [List.find?_cons_of_neg (by simp; omega)]; rfl
  have key : ∀ l : List Ac, ((l.filter (fun y => decide (y.at_ < x.at_))).find? (fun y => decide (y.at_ = t))).or ((l.filter (fun y => decide (x.at_ < y.at_))).find? (fun y => decide (y.at_ = t))) = l.find? (fun y => decide (y.at_ = t)) := by
   intro l
   have none_of : ∀ q : Ac → Bool, (∀ y, q y = true → y.at_ ≠ t) → (l.filter q).find? (fun y => decide (y.at_ = t)) = none := fun q hq => by
    rw [List.find?_eq_none]
    intro y hy
    simpa using hq y (List.mem_filter.1 hy).2
   have some_of : ∀ q : Ac → Bool, (∀ y, y.at_ = t → q y = true) → (l.filter q).find? (fun y => decide (y.at_ = t)) = l.find? (fun y => decide (y.at_ = t)) := fun q hq => by
    rw [List.find?_filter]
    congr 1
    funext y
    rw [Bool.eq_iff_iff]
    simp only [decide_eq_true_eq]
    exact ⟨fun h => h.2, fun h => ⟨hq y h, h⟩⟩
   rcases Nat.lt_trichotomy t x.at_ with h1 | h1 | h1
   ·rw [none_of (fun y => decide (x.at_ < y.at_)) (fun y hy => by simp at hy; omega), some_of (fun y => decide (y.at_ < x.at_)) (fun y hy => by simp; omega), Option.or_none]
   ·exact absurd h1 h
   ·rw [none_of (fun y => decide (y.at_ < x.at_)) (fun y hy => by simp at hy; omega), some_of (fun y => decide (x.at_ < y.at_)) (fun y hy => by simp; omega), Option.none_or]
  unfold putA
  rw [List.find?_append, List.find?_append, hx, Option.or_none]
  exact key l
 unfold findA
 rw [e]
def SlG (l : List Sl) : Prop := Rise l ∧ (∀ x ∈ l, W256 x.1 ∧ W256 x.2) ∧ l.length ≤ 20 ∧ ∀ x ∈ l, x.2 ≠ 0
theorem SlG.nil : SlG [] := ⟨by unfold Rise; simp, (fun x hx => by cases hx), by simp, (fun x hx => by cases hx)⟩
theorem SlG.right {l : List Sl} (h : SlG l) : rightB' l = true := (rightB_iff' l).2 ⟨by have := h.2.2.1; omega, h.1, h.2.2.2⟩
structure AcG (x : Ac) : Prop where
 ok : AcOk x
 may : mayB x = true
 len : x.slots.length ≤ 20
 wide : ∀ y ∈ x.slots, W256 y.1 ∧ W256 y.2
theorem acG_of (n b : Nat) (z : Int) {l : List Sl} (hn : n < 256 ^ 20) (hb : b < 5) (h0 : 0 ≤ z) (h1 : z < 3) (hl : SlG l) : AcG ⟨n, b, z, ⟨#[]⟩, l⟩ where
 ok := ⟨hn, by show W256 b; unfold W256; omega, by show I64 z; unfold I64; omega, by show (⟨#[]⟩ : ByteArray).size ≤ _; decide⟩
 may := may_ac0 n b z l hl.right h0 (by omega)
 len := hl.2.2.1
 wide := hl.2.1
theorem set_good {l : List Ac} {x : Ac} (hi : StI 30 l) (hx : AcG x) : setE l x = 0 ∧ StI 31 (putA l x) ∧ setE (putA l x) x = 0 ∧ putA (putA l x) x = putA l x := by
 have hp := putA_grow l x
 have hl := hi.len
 have e : setE l x = 0 := by
  unfold setE
  rw [if_neg (by rw [hi.right]; decide), if_neg (by rw [hx.may]; decide), if_pos (by omega)]
 have hr := right_put hi.right hx.may (by omega)
 have hpp := put_put l (x := x) (y := x) rfl
 refine ⟨e, ⟨hr, by omega, fun y hy => ?_⟩, ?_, hpp⟩
 ·rcases mem_putA hy with h | rfl
  ·have := hi.slots y h
   omega
  ·have := hx.len
   omega
 ·unfold setE
  rw [if_neg (by rw [hr]; decide), if_neg (by rw [hx.may]; decide), hpp, if_pos (by omega)]
end Go.Proofs.YtkicmbdjihjgfaaGreatDoor
namespace Go.Proofs.YtkicmbdjihjgfaaGreatDoor
open Go Go.RowKit
attribute [local go_sem] Oper.semAt_some Grows wide_fn
theorem built_ac0 (x0 x1 x2 x3 x4 x5 x6 x7 x8 x9 x10 x11 x12 x13 x14 x15 x16 x17 x18 x19 : Value) (b0 b1 b2 b3 z : Int) (a : Option Addr) (n c : Nat) : Tryz.prog.built 31 [(0, .agg #[x0, x1, x2, x3, x4, x5, x6, x7, x8, x9, x10, x11, x12, x13, x14, x15, x16, x17, x18, x19]), (1, .agg #[.int .u64 b0, .int .u64 b1, .int .u64 b2, .int .u64 b3]), (2, .int .i64 z), (4, .slice a n c)] = some #[x0, x1, x2, x3, x4, x5, x6, x7, x8, x9, x10, x11, x12, x13, x14, x15, x16, x17, x18, x19, .int .u64 b0, .int .u64 b1, .int .u64 b2, .int .u64 b3, .int .i64 z, .string { data := #[] }, .slice a n c] := by kernel_rfl
theorem built_ac (n b : Nat) (z : Int) (l : List Sl) (a : Option Addr) (k c : Nat) : Tryz.prog.built 31 [(0, .agg (adC n)), (1, .agg #[.int .u64 (lim b 0), .int .u64 (lim b 1), .int .u64 (lim b 2), .int .u64 (lim b 3)]), (2, .int .i64 z), (4, .slice a k c)] = some (acC ⟨n, b, z, ⟨#[]⟩, l⟩ (.slice a k c)) := by
 have h := built_ac0 (.int .u8 ((adB n 0 : Nat) : Int)) (.int .u8 ((adB n 1 : Nat) : Int)) (.int .u8 ((adB n 2 : Nat) : Int)) (.int .u8 ((adB n 3 : Nat) : Int)) (.int .u8 ((adB n 4 : Nat) : Int)) (.int .u8 ((adB n 5 : Nat) : Int)) (.int .u8 ((adB n 6 : Nat) : Int)) (.int .u8 ((adB n 7 : Nat) : Int)) (.int .u8 ((adB n 8 : Nat) : Int)) (.int .u8 ((adB n 9 : Nat) : Int)) (.int .u8 ((adB n 10 : Nat) : Int)) (.int .u8 ((adB n 11 : Nat) : Int)) (.int .u8 ((adB n 12 : Nat) : Int)) (.int .u8 ((adB n 13 : Nat) : Int)) (.int .u8 ((adB n 14 : Nat) : Int)) (.int .u8 ((adB n 15 : Nat) : Int)) (.int .u8 ((adB n 16 : Nat) : Int)) (.int .u8 ((adB n 17 : Nat) : Int)) (.int .u8 ((adB n 18 : Nat) : Int)) (.int .u8 ((adB n 19 : Nat) : Int)) (lim b 0) (lim b 1) (lim b 2) (lim b 3) z a k c
 have e1 : adC n = #[.int .u8 ((adB n 0 : Nat) : Int), .int .u8 ((adB n 1 : Nat) : Int), .int .u8 ((adB n 2 : Nat) : Int), .int .u8 ((adB n 3 : Nat) : Int), .int .u8 ((adB n 4 : Nat) : Int), .int .u8 ((adB n 5 : Nat) : Int), .int .u8 ((adB n 6 : Nat) : Int), .int .u8 ((adB n 7 : Nat) : Int), .int .u8 ((adB n 8 : Nat) : Int), .int .u8 ((adB n 9 : Nat) : Int), .int .u8 ((adB n 10 : Nat) : Int), .int .u8 ((adB n 11 : Nat) : Int), .int .u8 ((adB n 12 : Nat) : Int), .int .u8 ((adB n 13 : Nat) : Int), .int .u8 ((adB n 14 : Nat) : Int), .int .u8 ((adB n 15 : Nat) : Int), .int .u8 ((adB n 16 : Nat) : Int), .int .u8 ((adB n 17 : Nat) : Int), .int .u8 ((adB n 18 : Nat) : Int), .int .u8 ((adB n 19 : Nat) : Int)] := rfl
 rw [e1]
 exact h
theorem built_ad0 (x0 x1 x2 x3 x4 x5 x6 x7 x8 x9 x10 x11 x12 x13 x14 x15 x16 x17 x18 x19 : Value) : Tryz.prog.built 31 [(0, .agg #[x0, x1, x2, x3, x4, x5, x6, x7, x8, x9, x10, x11, x12, x13, x14, x15, x16, x17, x18, x19])] = some #[x0, x1, x2, x3, x4, x5, x6, x7, x8, x9, x10, x11, x12, x13, x14, x15, x16, x17, x18, x19, .int .u64 0, .int .u64 0, .int .u64 0, .int .u64 0, .int .i64 0, .string { data := #[] }, .slice none 0 0] := by kernel_rfl
theorem built_ad (n : Nat) : Tryz.prog.built 31 [(0, .agg (adC n))] = some (acC ⟨n, 0, 0, ⟨#[]⟩, []⟩ (.slice none 0 0)) := by
 have h := built_ad0 (.int .u8 ((adB n 0 : Nat) : Int)) (.int .u8 ((adB n 1 : Nat) : Int)) (.int .u8 ((adB n 2 : Nat) : Int)) (.int .u8 ((adB n 3 : Nat) : Int)) (.int .u8 ((adB n 4 : Nat) : Int)) (.int .u8 ((adB n 5 : Nat) : Int)) (.int .u8 ((adB n 6 : Nat) : Int)) (.int .u8 ((adB n 7 : Nat) : Int)) (.int .u8 ((adB n 8 : Nat) : Int)) (.int .u8 ((adB n 9 : Nat) : Int)) (.int .u8 ((adB n 10 : Nat) : Int)) (.int .u8 ((adB n 11 : Nat) : Int)) (.int .u8 ((adB n 12 : Nat) : Int)) (.int .u8 ((adB n 13 : Nat) : Int)) (.int .u8 ((adB n 14 : Nat) : Int)) (.int .u8 ((adB n 15 : Nat) : Int)) (.int .u8 ((adB n 16 : Nat) : Int)) (.int .u8 ((adB n 17 : Nat) : Int)) (.int .u8 ((adB n 18 : Nat) : Int)) (.int .u8 ((adB n 19 : Nat) : Int))
 have e1 : adC n = #[.int .u8 ((adB n 0 : Nat) : Int), .int .u8 ((adB n 1 : Nat) : Int), .int .u8 ((adB n 2 : Nat) : Int), .int .u8 ((adB n 3 : Nat) : Int), .int .u8 ((adB n 4 : Nat) : Int), .int .u8 ((adB n 5 : Nat) : Int), .int .u8 ((adB n 6 : Nat) : Int), .int .u8 ((adB n 7 : Nat) : Int), .int .u8 ((adB n 8 : Nat) : Int), .int .u8 ((adB n 9 : Nat) : Int), .int .u8 ((adB n 10 : Nat) : Int), .int .u8 ((adB n 11 : Nat) : Int), .int .u8 ((adB n 12 : Nat) : Int), .int .u8 ((adB n 13 : Nat) : Int), .int .u8 ((adB n 14 : Nat) : Int), .int .u8 ((adB n 15 : Nat) : Int), .int .u8 ((adB n 16 : Nat) : Int), .int .u8 ((adB n 17 : Nat) : Int), .int .u8 ((adB n 18 : Nat) : Int), .int .u8 ((adB n 19 : Nat) : Int)] := rfl
 have e2 : acC ⟨n, 0, 0, ⟨#[]⟩, []⟩ (.slice none 0 0) = #[.int .u8 ((adB n 0 : Nat) : Int), .int .u8 ((adB n 1 : Nat) : Int), .int .u8 ((adB n 2 : Nat) : Int), .int .u8 ((adB n 3 : Nat) : Int), .int .u8 ((adB n 4 : Nat) : Int), .int .u8 ((adB n 5 : Nat) : Int), .int .u8 ((adB n 6 : Nat) : Int), .int .u8 ((adB n 7 : Nat) : Int), .int .u8 ((adB n 8 : Nat) : Int), .int .u8 ((adB n 9 : Nat) : Int), .int .u8 ((adB n 10 : Nat) : Int), .int .u8 ((adB n 11 : Nat) : Int), .int .u8 ((adB n 12 : Nat) : Int), .int .u8 ((adB n 13 : Nat) : Int), .int .u8 ((adB n 14 : Nat) : Int), .int .u8 ((adB n 15 : Nat) : Int), .int .u8 ((adB n 16 : Nat) : Int), .int .u8 ((adB n 17 : Nat) : Int), .int .u8 ((adB n 18 : Nat) : Int), .int .u8 ((adB n 19 : Nat) : Int), .int .u64 0, .int .u64 0, .int .u64 0, .int .u64 0, .int .i64 0, .string { data := #[] }, .slice none 0 0] := by
  unfold acC acL
  simp only [lim_zero]
  rfl
 rw [e1, e2]
 exact h
theorem wpList_build_ac4 {ops : Array Oper} {rest : List Oper} {o : Oper} {a : Act} {w : World} {Q : Exit → Act → World → Prop} (hw : Region.wanted o (yielded ops a.tmps) = true) (x y z u : Operand) (ho : o.op = .build 31 #[(0, x), (1, y), (2, z), (4, u)]) (v0 v1 v2 v4 : Value) (cs : Array Value) (hb : Tryz.prog.built 31 [(0, v0), (1, v1), (2, v2), (4, v4)] = some cs) (hx : a.eval x = v0) (hy : a.eval y = v1) (hz : a.eval z = v2) (hu : a.eval u = v4)
  (h : wpList Tryz.prog ops Q rest (a.put o.dst (.agg cs)) w) : wpList Tryz.prog ops Q (o :: rest) a w := by
 refine wpList_step fun K hK => ?_
 rw [if_pos hw]
 have e : Tryz.prog.built 31 (#[((0 : Nat), x), (1, y), (2, z), (4, u)].map fun (i, x) => (i, a.eval x)).toList = some cs := by
  simp only [List.map_toArray, List.map_cons, List.map_nil, hx, hy, hz, hu]
  exact hb
 refine wp_build 31 #[(0, x), (1, y), (2, z), (4, u)] ho (by rw [e]; rfl) (hK _ _ ?_)
 rw [e]
 exact h
theorem wpList_build_ad1 {ops : Array Oper} {rest : List Oper} {o : Oper} {a : Act} {w : World} {Q : Exit → Act → World → Prop} (hw : Region.wanted o (yielded ops a.tmps) = true) (x : Operand) (ho : o.op = .build 31 #[(0, x)]) (v0 : Value) (cs : Array Value) (hb : Tryz.prog.built 31 [(0, v0)] = some cs) (hx : a.eval x = v0)
  (h : wpList Tryz.prog ops Q rest (a.put o.dst (.agg cs)) w) : wpList Tryz.prog ops Q (o :: rest) a w := by
 refine wpList_step fun K hK => ?_
 rw [if_pos hw]
 have e : Tryz.prog.built 31 (#[((0 : Nat), x)].map fun (i, x) => (i, a.eval x)).toList = some cs := by
  simp only [List.map_toArray, List.map_cons, List.map_nil, hx]
  exact hb
 refine wp_build 31 #[(0, x)] ho (by rw [e]; rfl) (hK _ _ ?_)
 rw [e]
 exact h
def U3 (W : World) (n b : Nat) (z : Int) (f : Nat → Bool) (g : Nat → Value) (w : World) : Prop :=
 Below W.heap.size W w ∧ (f 11 = true → ∃ l, SlG l ∧ RowT w W.heap.size (g 11) l) ∧
 (f 12 = true → ∃ l sv, SlG l ∧ RowT w W.heap.size sv l ∧ g 12 = .agg (acC ⟨n, b, z, ⟨#[]⟩, l⟩ sv)) ∧
 (f 13 = true → ∃ q, g 13 = .pointer (some ⟨q, 0, none⟩) ∧ W.heap.size ≤ q ∧ (f 14 = false → Has w q 31 #[.int .u8 0, .int .u8 0, .int .u8 0, .int .u8 0, .int .u8 0, .int .u8 0, .int .u8 0, .int .u8 0, .int .u8 0, .int .u8 0, .int .u8 0, .int .u8 0, .int .u8 0, .int .u8 0, .int .u8 0, .int .u8 0, .int .u8 0, .int .u8 0, .int .u8 0, .int .u8 0, .int .u64 0, .int .u64 0, .int .u64 0, .int .u64 0, .int .i64 0, .string { data := #[] }, .slice none 0 0]) ∧ (f 14 = true → ∃ l sv, SlG l ∧ RowT w W.heap.size sv l ∧ Has w q 31 (acC ⟨n, b, z, ⟨#[]⟩, l⟩ sv)))
section
variable {W : World} {n b : Nat} {z : Int} {f : Nat → Bool} {g : Nat → Value} {w w' : World}
theorem U3.later (h : U3 W n b z f g w) (hb : Below w.heap.size w w') : U3 W n b z f g w' := by
 obtain ⟨h1, h2, h3, h4⟩ := h
 refine ⟨h1.trans (hb.mono h1.size), fun e => ?_, fun e => ?_, fun e => ?_⟩
 ·obtain ⟨l, k1, k2⟩ := h2 e; exact ⟨l, k1, k2.later hb⟩
 ·obtain ⟨l, sv, k1, k2, k3⟩ := h3 e; exact ⟨l, sv, k1, k2.later hb, k3⟩
 ·obtain ⟨q, k1, k2, k3, k4⟩ := h4 e
  exact ⟨q, k1, k2, fun e => (k3 e).later hb, fun e => let ⟨l, sv, m1, m2, m3⟩ := k4 e; ⟨l, sv, m1, m2.later hb, m3.later hb⟩⟩
theorem U3.same {f' : Nat → Bool} {g' : Nat → Value} (h : U3 W n b z f g w) (hh : ∀ j, j = 11 ∨ j = 12 ∨ j = 13 ∨ j = 14 → f j = f' j ∧ g j = g' j) : U3 W n b z f' g' w := by
 unfold U3 at h ⊢
 rwa [(hh 11 (by omega)).1, (hh 11 (by omega)).2, (hh 12 (by omega)).1, (hh 12 (by omega)).2, (hh 13 (by omega)).1, (hh 13 (by omega)).2, (hh 14 (by omega)).1] at h
theorem U3.slots (h : U3 W n b z f g w) (hb : Below w.heap.size w w') {v : Value} {l : List Sl} (hl : SlG l) (hr : RowT w' W.heap.size v l) : U3 W n b z (upd f 11 true) (upd g 11 v) w' := by
 obtain ⟨h1, h2, h3, h4⟩ := h.later hb
 exact ⟨h1, fun _ => ⟨l, hl, by simpa [upd] using hr⟩, by simpa [upd] using h3, by simpa [upd] using h4⟩
theorem U3.made (h : U3 W n b z f g w) {l : List Sl} {sv : Value} (hl : SlG l) (hr : RowT w W.heap.size sv l) : U3 W n b z (upd f 12 true) (upd g 12 (.agg (acC ⟨n, b, z, ⟨#[]⟩, l⟩ sv))) w := by
 obtain ⟨h1, h2, h3, h4⟩ := h
 exact ⟨h1, by simpa [upd] using h2, fun _ => ⟨l, sv, hl, hr, by simp [upd]⟩, by simpa [upd] using h4⟩
theorem U3.box (h : U3 W n b z f g w) (f1 : f 14 = false) : U3 W n b z (upd f 13 true) (upd g 13 (.pointer (some ⟨w.heap.size, 0, none⟩))) (w.alloc (.cells #[.int .u8 0, .int .u8 0, .int .u8 0, .int .u8 0, .int .u8 0, .int .u8 0, .int .u8 0, .int .u8 0, .int .u8 0, .int .u8 0, .int .u8 0, .int .u8 0, .int .u8 0, .int .u8 0, .int .u8 0, .int .u8 0, .int .u8 0, .int .u8 0, .int .u8 0, .int .u8 0, .int .u64 0, .int .u64 0, .int .u64 0, .int .u64 0, .int .i64 0, .string { data := #[] }, .slice none 0 0] 31)) := by
 obtain ⟨h1, h2, h3, h4⟩ := h.later ((Below.refl w.heap.size w).alloc (Nat.le_refl _) (.cells #[.int .u8 0, .int .u8 0, .int .u8 0, .int .u8 0, .int .u8 0, .int .u8 0, .int .u8 0, .int .u8 0, .int .u8 0, .int .u8 0, .int .u8 0, .int .u8 0, .int .u8 0, .int .u8 0, .int .u8 0, .int .u8 0, .int .u8 0, .int .u8 0, .int .u8 0, .int .u8 0, .int .u64 0, .int .u64 0, .int .u64 0, .int .u64 0, .int .i64 0, .string { data := #[] }, .slice none 0 0] 31))
 exact ⟨h1, by simpa [upd] using h2, by simpa [upd] using h3, fun _ => ⟨w.heap.size, by simp [upd], h.1.size, fun _ => Has.new w 31 #[.int .u8 0, .int .u8 0, .int .u8 0, .int .u8 0, .int .u8 0, .int .u8 0, .int .u8 0, .int .u8 0, .int .u8 0, .int .u8 0, .int .u8 0, .int .u8 0, .int .u8 0, .int .u8 0, .int .u8 0, .int .u8 0, .int .u8 0, .int .u8 0, .int .u8 0, .int .u8 0, .int .u64 0, .int .u64 0, .int .u64 0, .int .u64 0, .int .i64 0, .string { data := #[] }, .slice none 0 0], fun k => by simp [upd, f1] at k⟩⟩
theorem U3.put (h : U3 W n b z f g w) (fa : f 13 = true) (f1 : f 14 = false) {q : Nat} (eb : g 13 = .pointer (some ⟨q, 0, none⟩)) {l : List Sl} {sv : Value} (hl : SlG l) (hr : RowT w W.heap.size sv l) (v : Value) : U3 W n b z (upd f 14 true) (upd g 14 v) (w.setRow q (acC ⟨n, b, z, ⟨#[]⟩, l⟩ sv)) := by
 obtain ⟨h1, h2, h3, h4⟩ := h
 obtain ⟨q', e1, e2, e3, e4⟩ := h4 fa
 rw [eb] at e1
 injection e1 with e1
 injection e1 with e1
 injection e1 with e1 _ _
 subst e1
 have hz := e3 f1
 refine ⟨below_rowAc h1 e2 _, fun k => ?_, fun k => ?_, fun _ => ⟨q, by simpa [upd] using eb, e2, fun k => by simp [upd] at k, fun _ => ⟨l, sv, hl, hr.rowAc hz _, setRow_heap _ _ _ _ _ _ hz⟩⟩⟩
 ·obtain ⟨l', k1, k2⟩ := h2 (by simpa [upd] using k)
  exact ⟨l', k1, by simpa [upd] using k2.rowAc hz _⟩
 ·obtain ⟨l', sv', k1, k2, k3⟩ := h3 (by simpa [upd] using k)
  exact ⟨l', sv', k1, k2.rowAc hz _, by simpa [upd] using k3⟩
end
def UF (W : World) (x : Ac) (i j : Nat) (f : Nat → Bool) (g : Nat → Value) (w : World) : Prop :=
 Below W.heap.size W w ∧ (f i = true → ∃ sv, g i = .agg (acC x sv) ∧ KeepS w sv x.slots) ∧ (f j = true → ∃ sv, g j = .agg (acC x sv) ∧ KeepS w sv x.slots)
section
variable {W : World} {x : Ac} {i j : Nat} {f : Nat → Bool} {g : Nat → Value} {w w' : World}
theorem UF.later (h : UF W x i j f g w) (hb : Below w.heap.size w w') : UF W x i j f g w' := by
 obtain ⟨h1, h2, h3⟩ := h
 exact ⟨h1.trans (hb.mono h1.size), fun e => let ⟨sv, k1, k2⟩ := h2 e; ⟨sv, k1, k2.later hb⟩, fun e => let ⟨sv, k1, k2⟩ := h3 e; ⟨sv, k1, k2.later hb⟩⟩
theorem UF.same {f' : Nat → Bool} {g' : Nat → Value} (h : UF W x i j f g w) (hi : f i = f' i ∧ g i = g' i) (hj : f j = f' j ∧ g j = g' j) : UF W x i j f' g' w := by
 unfold UF at h ⊢
 rwa [hi.1, hi.2, hj.1, hj.2] at h
theorem UF.start (g : Nat → Value) : UF W x i j (fun _ => false) g { W with drawn := W.drawn + 1 } :=
 ⟨(Below.refl _ _).drew, fun h => absurd h (by simp), fun h => absurd h (by simp)⟩
theorem UF.one (h : UF W x i j f g w) (hb : Below w.heap.size w w') (hij : j ≠ i ∨ j = i) {sv : Value} (hk : KeepS w' sv x.slots) : UF W x i j (upd f i true) (upd g i (.agg (acC x sv))) w' := by
 obtain ⟨h1, h2, h3⟩ := h.later hb
 refine ⟨h1, fun _ => ⟨sv, upd_self g i _, hk⟩, fun e => ?_⟩
 by_cases hji : j = i
 ·subst hji
  exact ⟨sv, upd_self g _ _, hk⟩
 ·rw [upd_ne f true hji] at e
  rw [upd_ne g _ hji]
  exact h3 e
theorem UF.two (h : UF W x i j f g w) (hb : Below w.heap.size w w') {sv : Value} (hk : KeepS w' sv x.slots) : UF W x i j (upd f j true) (upd g j (.agg (acC x sv))) w' := by
 obtain ⟨h1, h2, h3⟩ := h.later hb
 refine ⟨h1, fun e => ?_, fun _ => ⟨sv, upd_self g j _, hk⟩⟩
 by_cases hji : i = j
 ·subst hji
  exact ⟨sv, upd_self g _ _, hk⟩
 ·rw [upd_ne f true hji] at e
  rw [upd_ne g _ hji]
  exact h2 e
end
theorem stateSets_any (W : World) (hT : Tab W) (v : Value) (zs : List Q4) (hr : RowF 4 W v zs) (p : Nat → Int) (hp : ∀ j, j < 4 → I64 (p j)) (s : Value) (ys : List (Int × Int)) (hy : RawAt W s ys) :
  Calls Tryz.prog 5 #[v, .agg (rowL 4 p).toArray, s] W fun e w' => e = .returned (.bool true) ∧ Below W.heap.size W w' := by
 show Calls Tryz.prog 5 #[v, .agg #[.int .i64 (p 0), .int .i64 (p 1), .int .i64 (p 2), .int .i64 (p 3)], s] W fun e w' => e = .returned (.bool true) ∧ Below W.heap.size W w'
 have hmx : Tryz.prog.follows .mixedOrders = true := by kernel_rfl
 obtain ⟨V, hV, hB, q0⟩ := newBox W 34 #[.int .i64 (p 0), .int .i64 (p 1), .int .i64 (p 2), .int .i64 (p 3)]
 have HB := hid hB
 have Q0 := hid q0
 have AW := hid (awake_any V (hT.later q0))
 have ST := hid (fun (X : World) (hX : Below V.heap.size V X) => state8_any X v zs ((hr.later q0).later hX))
 have SL := hid (fun (X : World) (hX : Below V.heap.size V X) => slots_raw X s ys ((hy.later q0).later hX) false)
 have AD := hid (fun X : World => addr8_any X (p 0) (hp 0 (by decide)))
 have P1 := hid (pick8_ret (p 1) (hp 1 (by decide)) 5 (by decide) (by decide))
 have P2 := hid (pick8_ret (p 2) (hp 2 (by decide)) 3 (by decide) (by decide))
 have P3 := hid (pick8_ret (p 3) (hp 3 (by decide)) 3 (by decide) (by decide))
 have HAD := hid (adrN_lt (pickN_range (p 0) 9 (by decide)).2)
 obtain ⟨b, hb, gb⟩ : ∃ b : Nat, pickN (p 1) 5 = (b : Int) ∧ b < 5 := by
  obtain ⟨h0, h1⟩ := pickN_range (p 1) 5 (by decide)
  exact ⟨(pickN (p 1) 5).toNat, by omega, by omega⟩
 have HZ := hid (pickN_range (p 2) 3 (by decide))
 rw [hb] at P1
 have GB := hid gb
 have OF := hid (show ∀ X, Calls Tryz.prog 27 #[.int .i64 (b : Int)] X (fun e w' => e = .returned (.agg #[.int .u64 (lim b 0), .int .u64 (lim b 1), .int .u64 (lim b 2), .int .u64 (lim b 3)]) ∧ Below X.heap.size X w') from fun X => by
  have h := refOf_ret (b : Int) (by unfold I64; omega) X
  rw [ofN_nat b] at h
  exact h)
 have HI := hid (stN_inv zs)
 obtain ⟨ra, rc, rfl, _, _⟩ := hr.shape
 obtain ⟨ya, yc, rfl, _, _, _⟩ := id hy
 clear hB q0 hT hr hp hy hb gb
 generalize stN zs = l at *
 generalize adrN (pickN (p 0) 9) = n at *
 generalize pickN (p 2) 3 = z at *
 generalize pickN (p 3) 3 = k3 at *
 generalize zs.length = nz at *
 generalize ys.length = ny at *
 have BA := hid (fun (l : List Sl) a k c => built_ac n b z l a k c)
 have BD := hid (built_ad n)
 go_enter Tryz.func5, Tryz.ntmps5
 go_wp2_with fail
 clear hV
 refine AW.out.mono ?_
 rintro _ w1 ⟨rfl, hb⟩
 have Q1 := hid hb
 clear AW hb
 have CC := hid (ST.out w1 Q1.out)
 go_wp2_with fail
 refine CC.out.mono ?_
 rintro _ w2 ⟨s0, rfl, hst, hb⟩
 have S0 := hid hst
 have Q2 := hid (Q1.out.trans (hb.mono Q1.out.size))
 clear CC ST hst hb
 go_wp2_with fail
 refine wp_region_ghost [some (.pointer (some ⟨W.heap.size, 0, none⟩)), some (.int .i64 (p 0)), some (.agg (adC n)), some (.pointer (some ⟨W.heap.size, 1, none⟩)), some (.int .i64 (p 1)), some (.int .i64 (b : Int)), some (.agg #[.int .u64 (lim b 0), .int .u64 (lim b 1), .int .u64 (lim b 2), .int .u64 (lim b 3)]), some (.pointer (some ⟨W.heap.size, 2, none⟩)), some (.int .i64 (p 2)), some (.int .i64 z), some (.slice ya ny yc), none, none, none, none] [[], [0], [0, 1], [], [3], [0, 1, 2, 3, 4], [0, 1, 2, 3, 4, 5], [], [7], [0, 1, 2, 3, 4, 5, 6, 7, 8], [], [0, 1, 2, 3, 4, 5, 6, 7, 8, 9, 10], [0, 1, 2, 3, 4, 5, 6, 7, 8, 9, 10, 11], [], [0, 1, 2, 3, 4, 5, 6, 7, 8, 9, 10, 11, 12, 13]] (U3 w2 n b z) hmx (by kernel_rfl) (by kernel_rfl) (fun f g wa wb h hb => h.later hb) (fun f f' g g' wa h => fun hh => hh.same (fun j hj => h j (by rcases hj with rfl | rfl | rfl | rfl <;> rfl))) ?_ ?_
 ·exact ⟨(Below.refl _ _).drew, fun h => absurd h (by simp), fun h => absurd h (by simp), fun h => absurd h (by simp)⟩
 rintro f g y hU Dn
 have c0 := ((HB.out.later Q2.out).later hU.1).cell 0 _ rfl
 have c1 := ((HB.out.later Q2.out).later hU.1).cell 1 _ rfl
 have c2 := ((HB.out.later Q2.out).later hU.1).cell 2 _ rfl
 replace hU := hid hU
 refine GW.known _ rfl (fun hd hf => ?_) ?_
 ·go_wp2_with fail
  exact ⟨rfl, rfl, Below.refl _ _⟩
 simp only [Act.put, setIfInBounds_toArray, set_cons_succ, set_cons_zero]
 refine GW.known _ rfl (fun hd hf => ?_) ?_
 ·go_wp2_with fail
  exact ⟨rfl, rfl, Below.refl _ _⟩
 simp only [Act.put, setIfInBounds_toArray, set_cons_succ, set_cons_zero]
 refine GW.known _ rfl (fun hd hf => ?_) ?_
 ·go_wp2_with fail
  refine (AD.out _).mono ?_
  rintro e u ⟨rfl, hb⟩
  go_wp2
  exact ⟨rfl, rfl, hb⟩
 simp only [Act.put, setIfInBounds_toArray, set_cons_succ, set_cons_zero]
 refine GW.known _ rfl (fun hd hf => ?_) ?_
 ·go_wp2_with fail
  exact ⟨rfl, rfl, Below.refl _ _⟩
 simp only [Act.put, setIfInBounds_toArray, set_cons_succ, set_cons_zero]
 refine GW.known _ rfl (fun hd hf => ?_) ?_
 ·go_wp2_with fail
  exact ⟨rfl, rfl, Below.refl _ _⟩
 simp only [Act.put, setIfInBounds_toArray, set_cons_succ, set_cons_zero]
 refine GW.known _ rfl (fun hd hf => ?_) ?_
 ·go_wp2_with fail
  refine (P1.out _).mono ?_
  rintro e u ⟨rfl, hb⟩
  go_wp2
  exact ⟨rfl, rfl, hb⟩
 simp only [Act.put, setIfInBounds_toArray, set_cons_succ, set_cons_zero]
 refine GW.known _ rfl (fun hd hf => ?_) ?_
 ·go_wp2_with fail
  refine (OF.out _).mono ?_
  rintro e u ⟨rfl, hb⟩
  go_wp2
  exact ⟨rfl, rfl, hb⟩
 simp only [Act.put, setIfInBounds_toArray, set_cons_succ, set_cons_zero]
 refine GW.known _ rfl (fun hd hf => ?_) ?_
 ·go_wp2_with fail
  exact ⟨rfl, rfl, Below.refl _ _⟩
 simp only [Act.put, setIfInBounds_toArray, set_cons_succ, set_cons_zero]
 refine GW.known _ rfl (fun hd hf => ?_) ?_
 ·go_wp2_with fail
  exact ⟨rfl, rfl, Below.refl _ _⟩
 simp only [Act.put, setIfInBounds_toArray, set_cons_succ, set_cons_zero]
 refine GW.known _ rfl (fun hd hf => ?_) ?_
 ·go_wp2_with fail
  refine (P2.out _).mono ?_
  rintro e u ⟨rfl, hb⟩
  go_wp2
  exact ⟨rfl, rfl, hb⟩
 simp only [Act.put, setIfInBounds_toArray, set_cons_succ, set_cons_zero]
 refine GW.known _ rfl (fun hd hf => ?_) ?_
 ·go_wp2_with fail
  exact ⟨rfl, rfl, Below.refl _ _⟩
 simp only [Act.put, setIfInBounds_toArray, set_cons_succ, set_cons_zero]
 refine GW.open rfl (fun hd hf => ?_) ?_
 ·have HC := SL.out y (Q2.out.trans (hU.out.1.mono Q2.out.size))
  have hfin := fun (w' : World) (v : Value) (hb : Below y.heap.size y w') (l : List Sl) (hl : SlG l) (hk : RowT w' y.heap.size v l) => hU.out.slots hb hl (hk.lower hU.out.1.size)
  replace hfin := hid hfin
  clear c0 c1 c2
  go_wp2_with fail
  refine HC.mono ?_
  rintro e u ⟨sv, l', rfl, h1, h2, h3, h4, h5, hb⟩
  have hfin' := hid (hfin.out u sv hb l' ⟨h2, h3, h4, h5 rfl⟩ h1)
  clear hfin HC h1 h2 h3 h4 h5 hb
  go_wp2
  exact ⟨rfl, hfin'.out⟩
 simp only [Act.put, setIfInBounds_toArray, set_cons_succ, set_cons_zero]
 refine GW.open rfl (fun hd hf => ?_) ?_
 ·obtain ⟨l', hl, hrow⟩ := hU.out.2.1 (hd 11 (by decide))
  obtain ⟨a', c', e11⟩ := hrow.shape
  rw [e11] at hrow ⊢
  have B4 := hid (BA.out l' a' l'.length c')
  have K := hid (hU.out.made hl hrow)
  clear c0 c1 c2 hrow hl
  go_wp2_with (refine wpList_build_ac4 rfl (.tmp 21) (.tmp 25) (.tmp 28) (.tmp 30) rfl _ _ _ _ _ B4.out rfl rfl rfl rfl ?_)
  exact ⟨rfl, K.out⟩
 simp only [Act.put, setIfInBounds_toArray, set_cons_succ, set_cons_zero]
 refine GW.open rfl (fun hd hf => ?_) ?_
 ·have f14 : f 14 = false := (by cases h : f 14 with | false => rfl | true => exact absurd (Dn 14 h 13 (by decide)) (by rw [hf]; simp))
  have K := hid (hU.out.box f14)
  clear c0 c1 c2
  go_wp2_with fail
  exact ⟨rfl, K.out⟩
 simp only [Act.put, setIfInBounds_toArray, set_cons_succ, set_cons_zero]
 refine GW.open rfl (fun hd hf => ?_) ?_
 ·have f13 := hd 13 (by decide)
  obtain ⟨q', e13, _, hz, _⟩ := hU.out.2.2.2 f13
  obtain ⟨l', sv, hl, hrow, e12⟩ := hU.out.2.2.1 (hd 12 (by decide))
  have hz' := hz hf
  have K := hid (fun v => hU.out.put f13 hf e13 hl hrow v)
  have hi9 := accRow ⟨n, b, z, ⟨#[]⟩, l'⟩ sv (by obtain ⟨_, _, e⟩ := hrow.shape; rw [e]; rfl)
  rw [e13, e12]
  clear c0 c1 c2 hz hl hrow
  go_wp2_with (refine wpList_store_row rfl _ (.tmp 9) (.tmp 31) rfl _ _ rfl rfl _ _ hz' hi9.1 hi9.2.1 hi9.2.2 ?_)
  exact ⟨rfl, K.out _⟩
 simp only [Act.put, setIfInBounds_toArray, set_cons_succ, set_cons_zero]
 refine GW.nil (fun hall => ?_)
 obtain ⟨q, e13, hq1, _, hz⟩ := hU.out.2.2.2 (hall 13 (by omega))
 obtain ⟨l3, sx, hl3, hrow, hbox⟩ := hz (hall 14 (by omega))
 rw [e13]
 have HGX := hid (acG_of n b z HAD.out GB.out HZ.out.1 HZ.out.2 hl3)
 have HX3 := hid hbox
 have KS3 := hid (show KeepS y sx l3 from ⟨_, hrow⟩)
 have HS1 := hid (show sx.oneCell' = true by obtain ⟨_, _, e⟩ := hrow.shape; rw [e]; rfl)
 have Q3 := hid hU.out.1
 have HVQ := hid hq1
 have HQ := hid (show W.heap.size < q from Nat.lt_of_lt_of_le HB.out.lt (Nat.le_trans Q2.out.size hq1))
 clear c0 c1 c2 hU Dn hall e13 hz hl3 hrow hbox hq1 P1 P2 OF SL
 have c3 := ((HB.out.later Q2.out).later Q3.out).cell 3 _ rfl
 go_wp2_with fail
 clear c3
 refine (P3.out _).mono ?_
 rintro _ w3 ⟨rfl, hb⟩
 have HX4 := hid (HX3.out.later hb)
 have KS4 := hid (KS3.out.later hb)
 have Q4 := hid (Q3.out.trans (hb.mono Q3.out.size))
 clear hb HX3 KS3 P3
 go_upto_if 35 with fail
 go_cut [] from 16 (fun wx => ∃ x sv, AcG x ∧ sv.oneCell' = true ∧ Has wx q 31 (acC x sv) ∧ KeepS wx sv x.slots ∧ Below w2.heap.size w2 wx)
 case first =>
  by_cases hk3 : k3 = 0
  ·have hk3I : (k3 == 0) = true := by simp [hk3]
   have c0 := ((HB.out.later Q2.out).later Q4.out).cell 0 _ rfl
   clear hk3
   go_wp2_with fail
   clear c0
   refine (AD.out _).mono ?_
   rintro _ w4 ⟨rfl, hb⟩
   have hX := HX4.out.later hb
   have hi9 := accRow ⟨n, 0, 0, ⟨#[]⟩, []⟩ (.slice none 0 0) rfl
   have hsz : (acC ⟨n, b, z, ⟨#[]⟩, l3⟩ sx).size = (acC ⟨n, 0, 0, ⟨#[]⟩, []⟩ (.slice none 0 0)).size := by rw [acC_size, acC_size]
   have hF : Has (w4.setRow q (acC ⟨n, 0, 0, ⟨#[]⟩, []⟩ (.slice none 0 0))) q 31 (acC ⟨n, 0, 0, ⟨#[]⟩, []⟩ (.slice none 0 0)) := setRow_heap _ _ _ _ _ _ hX
   have K := hid (show ∃ x sv, AcG x ∧ sv.oneCell' = true ∧ Has (w4.setRow q (acC ⟨n, 0, 0, ⟨#[]⟩, []⟩ (.slice none 0 0))) q 31 (acC x sv) ∧ KeepS (w4.setRow q (acC ⟨n, 0, 0, ⟨#[]⟩, []⟩ (.slice none 0 0))) sv x.slots ∧ Below w2.heap.size w2 (w4.setRow q (acC ⟨n, 0, 0, ⟨#[]⟩, []⟩ (.slice none 0 0))) from
    ⟨⟨n, 0, 0, ⟨#[]⟩, []⟩, .slice none 0 0, acG_of n 0 0 HAD.out (by decide) (by decide) (by decide) SlG.nil, rfl, hF, ⟨0, World.ownsRow_nil _ _ _ _⟩, below_rowAc (Q4.out.trans (hb.mono Q4.out.size)) HVQ.out _⟩)
   clear hb hF
   go_wp2_with (first | (refine wpList_build_ad1 rfl (.tmp 38) rfl _ _ BD.out rfl ?_) | (refine wpList_store_row rfl _ (.tmp 9) (.tmp 39) rfl _ _ rfl rfl _ _ hX hi9.1 hsz hi9.2.2 ?_))
   go_meet
   exact K.out
  ·have hk3I : (k3 == 0) = false := by simp [hk3]
   clear hk3
   go_wp2_with fail
   go_meet
   exact ⟨_, _, HGX.out, HS1.out, HX4.out, KS4.out, Q4.out⟩
 case rest =>
  obtain ⟨x, sv, hg, h1, hX, hK, hQ⟩ := hcut
  have HG := hid hg
  have HSE := hid (set_good HI.out hg)
  have HXa := hid hX
  have HKa := hid hK
  have H1 := hid h1
  have S0a := hid (S0.out.later hQ)
  have Qa := hid (Q2.out.trans (hQ.mono Q2.out.size))
  obtain ⟨wa, hwa⟩ : ∃ wa, wa = wc := ⟨_, rfl⟩
  subst hwa
  clear hg hX hK h1 hQ HX4 KS4 S0 Q4 HGX HS1 Q3 BA BD HAD GB HZ
  have LX := HXa.out.accLoad
  have CC := hid (show Calls Tryz.prog 20 #[s0, .agg (acC x sv)] wa (fun e w' => ∃ v, e = .returned (.tuple #[v, .int .i64 0]) ∧ StK w' v (putA l x) ∧ Below wa.heap.size wa w') from (set_any wa s0 l S0a.out.st (by have := HI.out.len; omega) (fun y hy => by have := HI.out.slots y hy; omega) x sv HG.out.ok (by obtain ⟨lo, h⟩ := HKa.out; exact h.slots HG.out.wide) (by have := HG.out.len; omega)).mono fun e w' h => by
   obtain ⟨v, h1, h2, h3⟩ := h
   rw [HSE.out.1] at h1
   exact ⟨v, h1, h2 HSE.out.1, h3⟩)
  go_wp2_with (refine wpList_load_known rfl _ (.tmp 9) rfl _ rfl _ LX ?_)
  refine CC.out.mono ?_
  rintro _ wb ⟨t1, rfl, hst, hb⟩
  have T1b := hid hst
  have HXb := hid (HXa.out.later hb)
  have HKb := hid (HKa.out.later hb)
  have S0b := hid (S0a.out.later hb)
  have Qb := hid (Qa.out.trans (hb.mono Qa.out.size))
  clear CC LX hst hb HXa HKa S0a Qa
  have LX := HXb.out.accLoad
  have CC := hid (show Calls Tryz.prog 20 #[t1, .agg (acC x sv)] wb (fun e w' => ∃ v, e = .returned (.tuple #[v, .int .i64 0]) ∧ StK w' v (putA l x) ∧ Below wb.heap.size wb w') from (set_any wb t1 (putA l x) T1b.out.st (by have := HSE.out.2.1.len; omega) (fun y hy => by have := HSE.out.2.1.slots y hy; omega) x sv HG.out.ok (by obtain ⟨lo, h⟩ := HKb.out; exact h.slots HG.out.wide) (by have := HG.out.len; omega)).mono fun e w' h => by
   obtain ⟨v, h1, h2, h3⟩ := h
   rw [HSE.out.2.2.1] at h1
   have h2' := h2 HSE.out.2.2.1
   rw [HSE.out.2.2.2] at h2'
   exact ⟨v, h1, h2', h3⟩)
  go_wp2_with (refine wpList_load_known rfl _ (.tmp 9) rfl _ rfl _ LX ?_)
  refine CC.out.mono ?_
  rintro _ wd ⟨t2, rfl, hst, hb⟩
  have T2d := hid hst
  have T1d := hid (T1b.out.later hb)
  have HXd := hid (HXb.out.later hb)
  have HKd := hid (HKb.out.later hb)
  have S0d := hid (S0b.out.later hb)
  have Qd := hid (Qb.out.trans (hb.mono Qb.out.size))
  clear CC LX hst hb HXb HKb S0b Qb T1b
  have RR := hid (fun (X : World) (hX : Below wd.heap.size wd X) => (show Calls Tryz.prog 10 #[t1] X (fun e w' => e = .returned (.bool true) ∧ Below X.heap.size X w') from by
   have h := right_st X t1 (putA l x) (T1d.out.later hX).st
   rw [HSE.out.2.1.right] at h
   exact h))
  have RS := hid (fun (X : World) (hX : Below wd.heap.size wd X) => (show Calls Tryz.prog 13 #[t1, t2] X (fun e w' => e = .returned (.bool true) ∧ Below X.heap.size X w') from by
   have h := refSame_any8 X t1 t2 (putA l x) (putA l x) (T1d.out.later hX).st (T2d.out.later hX).st
   rw [sameS_true rfl] at h
   exact h))
  have FI := hid (fun (X : World) (hX : Below wd.heap.size wd X) => (show Calls Tryz.prog 18 #[t1, .agg (adC x.at_)] X (fun e w' => ∃ sv', e = .returned (.agg (acC x sv')) ∧ RowT w' X.heap.size sv' x.slots ∧ Below X.heap.size X w') from (find_any X t1 (putA l x) (T1d.out.later hX).st x.at_ HG.out.ok.at_ (fun y hy => by have := HSE.out.2.1.slots y hy; omega)).mono fun e w' h => by
   rw [find_put] at h
   obtain ⟨sv', h1, h2, _, h3⟩ := h
   exact ⟨sv', h1, h2, h3⟩))
  go_wp2_with fail
  refine wp_region_ghost [some (.int .i64 0), some (.bool false), some (.bool false), some (.int .i64 0), some (.bool false), some (.bool false), some (.bool false), some t1, some (.bool true), some (.bool false), some (.bool false), some (.bool false), some t1, some t2, some (.bool true), some (.bool false), some (.bool false), some (.bool false), some t1, some (.pointer (some ⟨q, 0, none⟩)), some (.agg (adC x.at_)), none, some (.agg (acC x sv)), some (.bool true), some (.bool false), some (.bool false)] [[], [0], [0, 1], [0, 1, 2], [0, 1, 2, 3], [0, 1, 2, 3, 4], [0, 1, 2, 3, 4, 5], [0, 1, 2, 3, 4, 5, 6], [0, 1, 2, 3, 4, 5, 6, 7], [0, 1, 2, 3, 4, 5, 6, 7, 8], [0, 1, 2, 3, 4, 5, 6, 7, 8, 9], [0, 1, 2, 3, 4, 5, 6, 7, 8, 9, 10], [0, 1, 2, 3, 4, 5, 6, 7, 8, 9, 10, 11], [0, 1, 2, 3, 4, 5, 6, 7, 8, 9, 10, 11], [0, 1, 2, 3, 4, 5, 6, 7, 8, 9, 10, 11, 12, 13], [0, 1, 2, 3, 4, 5, 6, 7, 8, 9, 10, 11, 12, 13, 14], [0, 1, 2, 3, 4, 5, 6, 7, 8, 9, 10, 11, 12, 13, 14, 15], [0, 1, 2, 3, 4, 5, 6, 7, 8, 9, 10, 11, 12, 13, 14, 15, 16], [0, 1, 2, 3, 4, 5, 6, 7, 8, 9, 10, 11, 12, 13, 14, 15, 16, 17], [0, 1, 2, 3, 4, 5, 6, 7, 8, 9, 10, 11, 12, 13, 14, 15, 16, 17], [0, 1, 2, 3, 4, 5, 6, 7, 8, 9, 10, 11, 12, 13, 14, 15, 16, 17, 19], [0, 1, 2, 3, 4, 5, 6, 7, 8, 9, 10, 11, 12, 13, 14, 15, 16, 17, 18, 19, 20], [0, 1, 2, 3, 4, 5, 6, 7, 8, 9, 10, 11, 12, 13, 14, 15, 16, 17], [0, 1, 2, 3, 4, 5, 6, 7, 8, 9, 10, 11, 12, 13, 14, 15, 16, 17, 18, 19, 20, 21, 22], [0, 1, 2, 3, 4, 5, 6, 7, 8, 9, 10, 11, 12, 13, 14, 15, 16, 17, 18, 19, 20, 21, 22, 23], [0, 1, 2, 3, 4, 5, 6, 7, 8, 9, 10, 11, 12, 13, 14, 15, 16, 17, 18, 19, 20, 21, 22, 23, 24]] (UF wd x 21 21) hmx (by kernel_rfl) (by kernel_rfl) (fun f g wa wb h hb => h.later hb) (fun f f' g g' wa h => fun hh => hh.same (h 21 rfl) (h 21 rfl)) ?_ ?_
  ·exact UF.start _
  rintro f g y hU Dn
  have LX := (HXd.out.later hU.1).accLoad
  have LA := (HXd.out.later hU.1).accAdLoad
  replace hU := hid hU
  refine GW.known _ rfl (fun hd hf => ?_) ?_
  ·go_wp2_with fail
   exact ⟨rfl, rfl, Below.refl _ _⟩
  simp only [Act.put, setIfInBounds_toArray, set_cons_succ, set_cons_zero]
  refine GW.known _ rfl (fun hd hf => ?_) ?_
  ·go_wp2_with fail
   exact ⟨rfl, rfl, Below.refl _ _⟩
  simp only [Act.put, setIfInBounds_toArray, set_cons_succ, set_cons_zero]
  refine GW.known _ rfl (fun hd hf => ?_) ?_
  ·go_wp2_with fail
   exact ⟨rfl, rfl, Below.refl _ _⟩
  simp only [Act.put, setIfInBounds_toArray, set_cons_succ, set_cons_zero]
  refine GW.known _ rfl (fun hd hf => ?_) ?_
  ·go_wp2_with fail
   exact ⟨rfl, rfl, Below.refl _ _⟩
  simp only [Act.put, setIfInBounds_toArray, set_cons_succ, set_cons_zero]
  refine GW.known _ rfl (fun hd hf => ?_) ?_
  ·go_wp2_with fail
   exact ⟨rfl, rfl, Below.refl _ _⟩
  simp only [Act.put, setIfInBounds_toArray, set_cons_succ, set_cons_zero]
  refine GW.known _ rfl (fun hd hf => ?_) ?_
  ·go_wp2_with fail
   exact ⟨rfl, rfl, Below.refl _ _⟩
  simp only [Act.put, setIfInBounds_toArray, set_cons_succ, set_cons_zero]
  refine GW.known _ rfl (fun hd hf => ?_) ?_
  ·go_wp2_with fail
   exact ⟨rfl, rfl, Below.refl _ _⟩
  simp only [Act.put, setIfInBounds_toArray, set_cons_succ, set_cons_zero]
  refine GW.known _ rfl (fun hd hf => ?_) ?_
  ·go_wp2_with fail
   exact ⟨rfl, rfl, Below.refl _ _⟩
  simp only [Act.put, setIfInBounds_toArray, set_cons_succ, set_cons_zero]
  refine GW.known _ rfl (fun hd hf => ?_) ?_
  ·go_wp2_with fail
   refine (RR.out y hU.out.1).mono ?_
   rintro e u ⟨rfl, hb⟩
   go_wp2
   exact ⟨rfl, rfl, hb⟩
  simp only [Act.put, setIfInBounds_toArray, set_cons_succ, set_cons_zero]
  refine GW.known _ rfl (fun hd hf => ?_) ?_
  ·go_wp2_with fail
   exact ⟨rfl, rfl, Below.refl _ _⟩
  simp only [Act.put, setIfInBounds_toArray, set_cons_succ, set_cons_zero]
  refine GW.known _ rfl (fun hd hf => ?_) ?_
  ·go_wp2_with fail
   exact ⟨rfl, rfl, Below.refl _ _⟩
  simp only [Act.put, setIfInBounds_toArray, set_cons_succ, set_cons_zero]
  refine GW.known _ rfl (fun hd hf => ?_) ?_
  ·go_wp2_with fail
   exact ⟨rfl, rfl, Below.refl _ _⟩
  simp only [Act.put, setIfInBounds_toArray, set_cons_succ, set_cons_zero]
  refine GW.known _ rfl (fun hd hf => ?_) ?_
  ·go_wp2_with fail
   exact ⟨rfl, rfl, Below.refl _ _⟩
  simp only [Act.put, setIfInBounds_toArray, set_cons_succ, set_cons_zero]
  refine GW.known _ rfl (fun hd hf => ?_) ?_
  ·go_wp2_with fail
   exact ⟨rfl, rfl, Below.refl _ _⟩
  simp only [Act.put, setIfInBounds_toArray, set_cons_succ, set_cons_zero]
  refine GW.known _ rfl (fun hd hf => ?_) ?_
  ·go_wp2_with fail
   refine (RS.out y hU.out.1).mono ?_
   rintro e u ⟨rfl, hb⟩
   go_wp2
   exact ⟨rfl, rfl, hb⟩
  simp only [Act.put, setIfInBounds_toArray, set_cons_succ, set_cons_zero]
  refine GW.known _ rfl (fun hd hf => ?_) ?_
  ·go_wp2_with fail
   exact ⟨rfl, rfl, Below.refl _ _⟩
  simp only [Act.put, setIfInBounds_toArray, set_cons_succ, set_cons_zero]
  refine GW.known _ rfl (fun hd hf => ?_) ?_
  ·go_wp2_with fail
   exact ⟨rfl, rfl, Below.refl _ _⟩
  simp only [Act.put, setIfInBounds_toArray, set_cons_succ, set_cons_zero]
  refine GW.known _ rfl (fun hd hf => ?_) ?_
  ·go_wp2_with fail
   exact ⟨rfl, rfl, Below.refl _ _⟩
  simp only [Act.put, setIfInBounds_toArray, set_cons_succ, set_cons_zero]
  refine GW.known _ rfl (fun hd hf => ?_) ?_
  ·go_wp2_with fail
   exact ⟨rfl, rfl, Below.refl _ _⟩
  simp only [Act.put, setIfInBounds_toArray, set_cons_succ, set_cons_zero]
  refine GW.known _ rfl (fun hd hf => ?_) ?_
  ·go_wp2_with fail
   exact ⟨rfl, rfl, Below.refl _ _⟩
  simp only [Act.put, setIfInBounds_toArray, set_cons_succ, set_cons_zero]
  refine GW.known _ rfl (fun hd hf => ?_) ?_
  ·go_wp2_with (refine wpList_load_known rfl _ (.tmp 71) rfl _ rfl _ LA ?_)
   exact ⟨rfl, rfl, Below.refl _ _⟩
  simp only [Act.put, setIfInBounds_toArray, set_cons_succ, set_cons_zero]
  refine GW.open rfl (fun hd hf => ?_) ?_
  ·have HC := FI.out y hU.out.1
   have hfin := hid (fun (w' : World) (sv : Value) (hb : Below y.heap.size y w') (hk : KeepS w' sv x.slots) => hU.out.one hb (.inr rfl) hk)
   clear LX LA
   go_wp2_with fail
   refine HC.mono ?_
   rintro e u ⟨sv', rfl, hrow, hb⟩
   have hfin' := hid (hfin.out u sv' hb ⟨_, hrow⟩)
   clear hfin HC hrow hb
   go_wp2
   exact ⟨rfl, hfin'.out⟩
  simp only [Act.put, setIfInBounds_toArray, set_cons_succ, set_cons_zero]
  refine GW.known _ rfl (fun hd hf => ?_) ?_
  ·go_wp2_with (refine wpList_load_known rfl _ (.tmp 9) rfl _ rfl _ LX ?_)
   exact ⟨rfl, rfl, Below.refl _ _⟩
  simp only [Act.put, setIfInBounds_toArray, set_cons_succ, set_cons_zero]
  refine GW.known _ rfl (fun hd hf => ?_) ?_
  ·obtain ⟨sv', e21, hk⟩ := hU.out.2.1 (hd 21 (by decide))
   have HC := hid (refAlike_any8 y x x sv' sv HG.out.ok HG.out.ok (by obtain ⟨lo, h⟩ := hk; exact h.slots HG.out.wide) (by obtain ⟨lo, h⟩ := HKd.out.later hU.out.1; exact h.slots HG.out.wide))
   rw [sameA_true rfl] at HC
   rw [e21]
   clear LX LA hk
   go_wp2_with fail
   refine HC.out.mono ?_
   rintro e u ⟨rfl, hb⟩
   go_wp2
   exact ⟨rfl, rfl, hb⟩
  simp only [Act.put, setIfInBounds_toArray, set_cons_succ, set_cons_zero]
  refine GW.known _ rfl (fun hd hf => ?_) ?_
  ·go_wp2_with fail
   exact ⟨rfl, rfl, Below.refl _ _⟩
  simp only [Act.put, setIfInBounds_toArray, set_cons_succ, set_cons_zero]
  refine GW.known _ rfl (fun hd hf => ?_) ?_
  ·go_wp2_with fail
   exact ⟨rfl, rfl, Below.refl _ _⟩
  simp only [Act.put, setIfInBounds_toArray, set_cons_succ, set_cons_zero]
  refine GW.nil (fun hall => ?_)
  have Q8 := hid (Qd.out.trans (hU.out.1.mono Qd.out.size))
  have S0e := hid (S0d.out.later hU.out.1)
  have T1e := hid (T1d.out.later hU.out.1)
  have HXe := hid (HXd.out.later hU.out.1)
  clear LX LA hU Dn hall S0d T1d HXd HKd RR RS FI T2d
  generalize g 21 = g21 at *
  go_wp2_with fail
  go_loopw [14] (fun i wr => ∃ k : Nat, k ≤ 9 ∧ i = .int .i64 (k : Int) ∧ Below y.heap.size y wr) (fun i _ => 9 - (intOf i).toNat)
  case atStart => exact ⟨0, by omega, rfl, Below.refl _ _⟩
  case round =>
   obtain ⟨k, hk, rfl, hq⟩ := hrel
   have HQR := hid hq
   clear hq
   by_cases hk9 : k < 9
   ·have hk9I : (k : Int) < 9 := by omega
    have hk0 : (0 : Int) ≤ (k : Int) := by omega
    have ADk := hid (addr8_any wr (k : Int) (by unfold I64; omega))
    rw [show pickN (k : Int) 9 = (k : Int) from by unfold pickN; rw [if_neg (by omega)]; omega] at ADk
    have HA := hid (show adrN (k : Int) < 256 ^ 20 from adrN_lt hk9I)
    have HK := hid hk9
    clear hk hk9
    generalize adrN (k : Int) = a at *
    go_wp2_with fail
    refine ADk.out.mono ?_
    rintro _ w5 ⟨rfl, hb⟩
    obtain ⟨w6, hw6, h20, q20⟩ := newBox w5 25 #[.int .u8 0, .int .u8 0, .int .u8 0, .int .u8 0, .int .u8 0, .int .u8 0, .int .u8 0, .int .u8 0, .int .u8 0, .int .u8 0, .int .u8 0, .int .u8 0, .int .u8 0, .int .u8 0, .int .u8 0, .int .u8 0, .int .u8 0, .int .u8 0, .int .u8 0, .int .u8 0]
    have k20 : Has (w6.setRow w5.heap.size (adC a)) w5.heap.size 25 (adC a) := setRow_heap _ _ _ _ _ _ h20
    have p20 := below_rowAc q20 (g := w5.heap.size) (Nat.le_refl _) (adC a)
    obtain ⟨we, hwe⟩ : ∃ we, w6.setRow w5.heap.size (adC a) = we := ⟨_, rfl⟩
    rw [hwe] at k20 p20
    have hia : (Tryz.prog.info? 25).map (·.size) = some (adC a).size := by rw [adC_size]; exact infoAd
    have hiz : (#[.int .u8 0, .int .u8 0, .int .u8 0, .int .u8 0, .int .u8 0, .int .u8 0, .int .u8 0, .int .u8 0, .int .u8 0, .int .u8 0, .int .u8 0, .int .u8 0, .int .u8 0, .int .u8 0, .int .u8 0, .int .u8 0, .int .u8 0, .int .u8 0, .int .u8 0, .int .u8 0] : Array Value).size = (adC a).size := by rw [adC_size]; rfl
    have hio : (adC a).all (·.oneCell') = true := adC_one a
    have Qe := hid (show Below y.heap.size y we from (HQR.out.trans (hb.mono HQR.out.size)).trans (p20.mono (Nat.le_trans HQR.out.size hb.size)))
    have HBe := hid k20
    have HXf := hid (HXe.out.later Qe.out)
    have he6 := fun X => eq20 a x.at_ HA.out HG.out.ok.at_ X
    clear hb q20 k20 p20 ADk
    go_wp2_with (refine wpList_store_row rfl _ (.tmp 15) (.tmp 83) rfl _ _ rfl rfl _ _ h20 hia hiz hio ?_; rw [hwe])
    clear h20 hia hiz hio hw6 hwe
    by_cases hax : a = x.at_
    ·rw [decide_eq_true hax] at he6
     have HAX := hid hax
     clear hax
     have LB := hid (show ∀ z : World, Grows we z → (loadVar 25 ⟨w5.heap.size, 0, none⟩).run Tryz.prog z = .ok (.agg (adC a)) z from fun z hz => by obtain ⟨q, rfl⟩ := hz; exact (HBe.out.later q.below).adLoad)
     have LA := hid (show ∀ z : World, Grows we z → (loadVar 25 ⟨q, 0, none⟩).run Tryz.prog z = .ok (.agg (adC x.at_)) z from fun z hz => by obtain ⟨q, rfl⟩ := hz; exact (HXf.out.later q.below).accAdLoad)
     refine wp_region_quietL (C := Grows we) hmx (by kernel_rfl) (grows_refl we) ?_
     repeat (first | (with_reducible refine wpQuiet_load rfl 25 _ rfl _ rfl _ LB.out ?_; simp only [Act.put, setIfInBounds_toArray, set_cons_succ, set_cons_zero]) | (with_reducible refine wpQuiet_load rfl 25 _ rfl _ rfl _ LA.out ?_; simp only [Act.put, setIfInBounds_toArray, set_cons_succ, set_cons_zero]) | (go_big_quiet_step (fail)))
     refine wpQuiet_nil ?_
     rintro _ ⟨z, rfl⟩
     have QZ := hid (Qe.out.trans (z.below.mono Qe.out.size))
     clear LB LA
     go_wp2_with fail
     go_roundw
     case rel => exact ⟨k + 1, by have := HK.out; omega, by simp, QZ.out⟩
     case measure => have := HK.out; simp [intOf]; omega
    ·rw [decide_eq_false hax] at he6
     have HAX := hid hax
     clear hax
     have F1 := hid (fun (X : World) (hX : Below we.heap.size we X) => (show Calls Tryz.prog 18 #[t1, .agg (adC a)] X (fun e w' => ∃ sv', e = .returned (.agg (acC (findA l a) sv')) ∧ RowT w' X.heap.size sv' (findA l a).slots ∧ Below X.heap.size X w') from (find_any X t1 (putA l x) ((T1e.out.later Qe.out).later hX).st a HA.out (fun y hy => by have := HSE.out.2.1.slots y hy; omega)).mono fun e w' h => by
      rw [find_other l x HAX.out] at h
      obtain ⟨sv', h1, h2, _, h3⟩ := h
      exact ⟨sv', h1, h2, h3⟩))
     have F2 := hid (fun (X : World) (hX : Below we.heap.size we X) => (show Calls Tryz.prog 19 #[s0, .agg (adC a)] X (fun e w' => ∃ sv', e = .returned (.agg (acC (findA l a) sv')) ∧ RowT w' X.heap.size sv' (findA l a).slots ∧ Below X.heap.size X w') from (refFind_any8 X s0 l ((S0e.out.later Qe.out).later hX).st a HA.out (fun y hy => by have := HI.out.slots y hy; omega)).mono fun e w' h => by
      obtain ⟨sv', h1, h2, _, h3⟩ := h
      exact ⟨sv', h1, h2, h3⟩))
     have FO := hid (findA_ok (t := a) (fun x hx => by obtain ⟨i, hi⟩ := List.getElem?_of_mem hx; exact S0e.out.st.ok hi) HA.out)
     have FW := hid (findA_wide S0e.out.st a)
     refine wp_region_ghost [some (.agg (adC a)), some (.pointer (some ⟨q, 0, none⟩)), some (.agg (adC x.at_)), some (.bool true), some (.bool true), some t1, some (.agg (adC a)), none, some s0, some (.agg (adC a)), none, some (.bool true), some (.bool false), some (.bool false)] [[], [], [1], [0, 1, 2], [0, 1, 2, 3], [0, 1, 2, 3, 4], [0, 1, 2, 3, 4], [0, 1, 2, 3, 4, 5, 6], [0, 1, 2, 3, 4], [0, 1, 2, 3, 4], [0, 1, 2, 3, 4, 5, 6, 7, 8, 9], [0, 1, 2, 3, 4, 5, 6, 7, 8, 9, 10], [0, 1, 2, 3, 4, 5, 6, 7, 8, 9, 10, 11], [0, 1, 2, 3, 4, 5, 6, 7, 8, 9, 10, 11, 12]] (UF we (findA l a) 7 10) hmx (by kernel_rfl) (by kernel_rfl) (fun f g wa wb h hb => h.later hb) (fun f f' g g' wa h => fun hh => hh.same (h 7 rfl) (h 10 rfl)) ?_ ?_
     ·exact UF.start _
     rintro f g y hU Dn
     have LB := (HBe.out.later hU.1).adLoad
     have LA := (HXf.out.later hU.1).accAdLoad
     replace hU := hid hU
     refine GW.known _ rfl (fun hd hf => ?_) ?_
     ·go_wp2_with (refine wpList_load_known rfl _ (.tmp 15) rfl _ rfl _ LB ?_)
      exact ⟨rfl, rfl, Below.refl _ _⟩
     simp only [Act.put, setIfInBounds_toArray, set_cons_succ, set_cons_zero]
     refine GW.known _ rfl (fun hd hf => ?_) ?_
     ·go_wp2_with fail
      exact ⟨rfl, rfl, Below.refl _ _⟩
     simp only [Act.put, setIfInBounds_toArray, set_cons_succ, set_cons_zero]
     refine GW.known _ rfl (fun hd hf => ?_) ?_
     ·go_wp2_with (refine wpList_load_known rfl _ (.tmp 85) rfl _ rfl _ LA ?_)
      exact ⟨rfl, rfl, Below.refl _ _⟩
     simp only [Act.put, setIfInBounds_toArray, set_cons_succ, set_cons_zero]
     refine GW.known _ rfl (fun hd hf => ?_) ?_
     ·go_wp2_with fail
      exact ⟨rfl, rfl, Below.refl _ _⟩
     simp only [Act.put, setIfInBounds_toArray, set_cons_succ, set_cons_zero]
     refine GW.known _ rfl (fun hd hf => ?_) ?_
     ·go_wp2_with fail
      exact ⟨rfl, rfl, Below.refl _ _⟩
     simp only [Act.put, setIfInBounds_toArray, set_cons_succ, set_cons_zero]
     refine GW.known _ rfl (fun hd hf => ?_) ?_
     ·go_wp2_with fail
      exact ⟨rfl, rfl, Below.refl _ _⟩
     simp only [Act.put, setIfInBounds_toArray, set_cons_succ, set_cons_zero]
     refine GW.known _ rfl (fun hd hf => ?_) ?_
     ·go_wp2_with (refine wpList_load_known rfl _ (.tmp 15) rfl _ rfl _ LB ?_)
      exact ⟨rfl, rfl, Below.refl _ _⟩
     simp only [Act.put, setIfInBounds_toArray, set_cons_succ, set_cons_zero]
     refine GW.open rfl (fun hd hf => ?_) ?_
     ·have HC := F1.out y hU.out.1
      have hfin := hid (fun (w' : World) (sv : Value) (hb : Below y.heap.size y w') (hk : KeepS w' sv (findA l a).slots) => hU.out.one hb (.inl (by decide)) hk)
      clear LB LA
      go_wp2_with fail
      refine HC.mono ?_
      rintro e u ⟨sv', rfl, hrow, hb⟩
      have hfin' := hid (hfin.out u sv' hb ⟨_, hrow⟩)
      clear hfin HC hrow hb
      go_wp2
      exact ⟨rfl, hfin'.out⟩
     simp only [Act.put, setIfInBounds_toArray, set_cons_succ, set_cons_zero]
     refine GW.known _ rfl (fun hd hf => ?_) ?_
     ·go_wp2_with fail
      exact ⟨rfl, rfl, Below.refl _ _⟩
     simp only [Act.put, setIfInBounds_toArray, set_cons_succ, set_cons_zero]
     refine GW.known _ rfl (fun hd hf => ?_) ?_
     ·go_wp2_with (refine wpList_load_known rfl _ (.tmp 15) rfl _ rfl _ LB ?_)
      exact ⟨rfl, rfl, Below.refl _ _⟩
     simp only [Act.put, setIfInBounds_toArray, set_cons_succ, set_cons_zero]
     refine GW.open rfl (fun hd hf => ?_) ?_
     ·have HC := F2.out y hU.out.1
      have hfin := hid (fun (w' : World) (sv : Value) (hb : Below y.heap.size y w') (hk : KeepS w' sv (findA l a).slots) => hU.out.two hb hk)
      clear LB LA
      go_wp2_with fail
      refine HC.mono ?_
      rintro e u ⟨sv', rfl, hrow, hb⟩
      have hfin' := hid (hfin.out u sv' hb ⟨_, hrow⟩)
      clear hfin HC hrow hb
      go_wp2
      exact ⟨rfl, hfin'.out⟩
     simp only [Act.put, setIfInBounds_toArray, set_cons_succ, set_cons_zero]
     refine GW.known _ rfl (fun hd hf => ?_) ?_
     ·obtain ⟨sv1, e7, hk1⟩ := hU.out.2.1 (hd 7 (by decide))
      obtain ⟨sv2, e10, hk2⟩ := hU.out.2.2 (hd 10 (by decide))
      have HC := hid (refAlike_any8 y (findA l a) (findA l a) sv1 sv2 FO.out FO.out (by obtain ⟨lo, h⟩ := hk1; exact h.slots FW.out) (by obtain ⟨lo, h⟩ := hk2; exact h.slots FW.out))
      rw [sameA_true rfl] at HC
      rw [e7, e10]
      clear LB LA hk1 hk2
      go_wp2_with fail
      refine HC.out.mono ?_
      rintro e u ⟨rfl, hb⟩
      go_wp2
      exact ⟨rfl, rfl, hb⟩
     simp only [Act.put, setIfInBounds_toArray, set_cons_succ, set_cons_zero]
     refine GW.known _ rfl (fun hd hf => ?_) ?_
     ·go_wp2_with fail
      exact ⟨rfl, rfl, Below.refl _ _⟩
     simp only [Act.put, setIfInBounds_toArray, set_cons_succ, set_cons_zero]
     refine GW.known _ rfl (fun hd hf => ?_) ?_
     ·go_wp2_with fail
      exact ⟨rfl, rfl, Below.refl _ _⟩
     simp only [Act.put, setIfInBounds_toArray, set_cons_succ, set_cons_zero]
     refine GW.nil (fun hall => ?_)
     have QZ := hid (Qe.out.trans (hU.out.1.mono Qe.out.size))
     clear LB LA hU Dn hall
     generalize g 7 = g7 at *
     generalize g 10 = g10 at *
     clear F1 F2
     go_wp2_with fail
     go_roundw
     case rel => exact ⟨k + 1, by have := HK.out; omega, by simp, QZ.out⟩
     case measure => have := HK.out; simp [intOf]; omega
   ·obtain rfl : k = 9 := by omega
    have hkk : ¬ ((9 : Nat) : Int) < 9 := by decide
    have QF := hid (Q0.out.trans ((Q8.out.trans (HQR.out.mono Q8.out.size)).mono Q0.out.size))
    go_wp2_with fail
    go_ret
    exact ⟨rfl, QF.out⟩
end Go.Proofs.YtkicmbdjihjgfaaGreatDoor
