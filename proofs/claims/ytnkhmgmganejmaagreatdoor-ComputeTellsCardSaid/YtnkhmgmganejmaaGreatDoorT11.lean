/- Part. -/
import Derived.Test.YtnkhmgmganejmaaGreatDoorT10
set_option maxRecDepth 100000
set_option maxHeartbeats 16000000
namespace Go.Proofs.YtnkhmgmganejmaaGreatDoor
open Go Go.RowKit Go.Shelf
attribute [local go_sem] Oper.semAt_some Grows wide_fn
theorem setCell_same {W : World} {B j : Nat} {v : Value} (h : W.cell? ⟨B, j, none⟩ = some v) : W.setCell ⟨B, j, none⟩ v = W := by
 have hh : W.heap.modify B (fun o => match o with | .cells c elem frozen => .cells (if (none : Option Unit).isSome then c else c.setIfInBounds j v) elem frozen | o => o) = W.heap := by
  refine Array.ext_getElem? fun i => ?_
  rw [Array.getElem?_modify]
  by_cases e : B = i
  ·subst e
   rw [if_pos rfl]
   cases hb : W.heap[B]? with
   | none => rfl
   | some o =>
    cases o with
    | cells c e f =>
     simp only [World.cell?, hb] at h
     have h2 : c[j]? = some v := h
     have h3 : c.setIfInBounds j v = c := by
      refine Array.ext_getElem? fun m => ?_
      by_cases hm : j = m
      ·subst hm
       have hl := (Array.getElem?_eq_some_iff.1 h2).1
       rw [Array.getElem?_setIfInBounds_self_of_lt hl, h2]
      ·rw [Array.getElem?_setIfInBounds_ne hm]
     show some (Obj.cells (c.setIfInBounds j v) e f) = _
     rw [h3]
    | _ => rfl
  ·rw [if_neg e]
 exact congrArg (fun h => ({ W with heap := h } : World)) hh
theorem wrap_nat (P : Nat) (h : P < 18446744073709551616) : IntKind.u64.wrap (P : Int) = (P : Int) := by rw [IntKind.wrap_u64]; omega
theorem Limbs.own {β : Type} (B : Nat) (t : TypeId) (n : Nat) (f : β → Nat → Int) : Own (fun s W => Limbs W B t n (f s)) := fun s X Y row hs hg hrow =>
 hs.kept hg (fun e' => by obtain ⟨o, ho, hc⟩ := hrow B e'.symm; obtain ⟨cur, h1, _⟩ := hs; rw [h1] at ho; cases ho; cases hc)
theorem Limbs.same {W : World} {B n : Nat} {t : TypeId} {m m' : Nat → Int} (h : Limbs W B t n m) (he : m = m') : Limbs W B t n m' := he ▸ h
def qAt (N b e : Nat) : Nat := N / 2 ^ e / b * 2 ^ e
theorem qAt_step (N b p : Nat) (hb : 0 < b) : (b ≤ 2 * (N / 2 ^ (p + 1) % b) + N / 2 ^ p % 2 → qAt N b p = qAt N b (p + 1) + 2 ^ p) ∧ (¬ b ≤ 2 * (N / 2 ^ (p + 1) % b) + N / 2 ^ p % 2 → qAt N b p = qAt N b (p + 1)) := by
 obtain ⟨_, h1, h2⟩ := bd_mod N b hb p
 unfold qAt
 constructor
 ·intro h
  rw [h1.1 h, Nat.add_mul, Nat.one_mul, Nat.pow_succ, Nat.mul_comm 2, Nat.mul_assoc, Nat.mul_comm 2]
 ·intro h
  rw [h2.1 h, Nat.pow_succ, Nat.mul_comm 2, Nat.mul_assoc, Nat.mul_comm 2]
theorem limN_addbit (c q r j : Nat) (hr : r < 64) : limN (c * 2 ^ (64 * q + r + 1) + 2 ^ (64 * q + r)) j = if j = q then Nat.lor (limN (c * 2 ^ (64 * q + r + 1)) q) (2 ^ r) else limN (c * 2 ^ (64 * q + r + 1)) j := by
 have h64 : (18446744073709551616 : Nat) = 2 ^ 64 := by decide
 unfold limN
 rw [h64]
 simp only [← Nat.pow_mul]
 have two : ∀ a : Nat, 0 < 2 ^ a := fun a => Nat.pow_pos (by decide)
 by_cases h1 : j = q
 ·subst h1
  rw [if_pos rfl]
  have e1 : (c * 2 ^ (64 * j + r + 1) + 2 ^ (64 * j + r)) / 2 ^ (64 * j) = c * 2 ^ (r + 1) + 2 ^ r := by
   rw [show 64 * j + r + 1 = (r + 1) + 64 * j by omega, show 64 * j + r = r + 64 * j by omega, Nat.pow_add 2 (r + 1) (64 * j), Nat.pow_add 2 r (64 * j), ← Nat.mul_assoc, ← Nat.add_mul, Nat.mul_div_cancel _ (two _)]
  have e2 : c * 2 ^ (64 * j + r + 1) / 2 ^ (64 * j) = c * 2 ^ (r + 1) := by
   rw [show 64 * j + r + 1 = (r + 1) + 64 * j by omega, Nat.pow_add 2 (r + 1) (64 * j), ← Nat.mul_assoc, Nat.mul_div_cancel _ (two _)]
  rw [e1, e2]
  have e3 : (2 : Nat) ^ 64 = 2 ^ (r + 1) * 2 ^ (63 - r) := by rw [← Nat.pow_add]; congr 1; omega
  have e4 : c * 2 ^ (r + 1) % 2 ^ 64 = c % 2 ^ (63 - r) * 2 ^ (r + 1) := by rw [e3, Nat.mul_comm (2 ^ (r + 1)), Nat.mul_mod_mul_right]
  have hlt : 2 ^ r < 2 ^ (r + 1) := Nat.pow_lt_pow_right (by decide) (by omega)
  have e5 : (c * 2 ^ (r + 1) + 2 ^ r) % 2 ^ 64 = c % 2 ^ (63 - r) * 2 ^ (r + 1) + 2 ^ r := by
   rw [e3, Nat.mul_comm c, Nat.add_comm, Nat.mod_mul, Nat.add_mul_mod_self_left, Nat.mod_eq_of_lt hlt, Nat.add_mul_div_left _ _ (two _), Nat.div_eq_of_lt hlt, Nat.zero_add, Nat.mul_comm (2 ^ (r + 1)), Nat.add_comm]
  rw [e4, e5]
  have h := or_apart (2 ^ r) (c % 2 ^ (63 - r)) (r + 1) hlt
  rw [Nat.add_comm, ← h]
  exact (Nat.or_comm _ _)
 ·rw [if_neg h1]
  by_cases h2 : j < q
  ·have e : 64 * q + r = 64 * j + (64 + (64 * (q - j - 1) + r)) := by omega
   have e1 : (c * 2 ^ (64 * q + r + 1) + 2 ^ (64 * q + r)) / 2 ^ (64 * j) = 2 ^ 64 * (c * 2 ^ (64 * (q - j - 1) + r + 1) + 2 ^ (64 * (q - j - 1) + r)) := by
    refine Nat.div_eq_of_eq_mul_right (two _) ?_
    rw [show 64 * q + r + 1 = 64 * j + (64 + (64 * (q - j - 1) + r + 1)) by omega, e, Nat.pow_add, Nat.pow_add 2 64, Nat.pow_add 2 (64 * j), Nat.pow_add 2 64, Nat.mul_add, Nat.mul_add]
    congr 1
    rw [Nat.mul_left_comm, Nat.mul_left_comm c]
   have e2 : c * 2 ^ (64 * q + r + 1) / 2 ^ (64 * j) = 2 ^ 64 * (c * 2 ^ (64 * (q - j - 1) + r + 1)) := by
    refine Nat.div_eq_of_eq_mul_right (two _) ?_
    rw [show 64 * q + r + 1 = 64 * j + (64 + (64 * (q - j - 1) + r + 1)) by omega, Nat.pow_add, Nat.pow_add 2 64]
    rw [Nat.mul_left_comm, Nat.mul_left_comm c]
   rw [e1, e2, Nat.mul_mod_right, Nat.mul_mod_right]
  ·have e1 : ∀ x, x / 2 ^ (64 * j) = x / 2 ^ (64 * q + r + 1) / 2 ^ (64 * j - (64 * q + r + 1)) := fun x => by
    rw [Nat.div_div_eq_div_mul, ← Nat.pow_add]
    congr 2
    omega
   have hlt : 2 ^ (64 * q + r) < 2 ^ (64 * q + r + 1) := Nat.pow_lt_pow_right (by decide) (by omega)
   rw [e1, e1 (c * 2 ^ (64 * q + r + 1)), Nat.mul_comm c, Nat.add_comm, Nat.add_mul_div_left _ _ (two _), Nat.div_eq_of_lt hlt, Nat.zero_add, Nat.mul_div_cancel_left _ (two _)]
def DvSt4 (w : World) (S0 N b low i : Nat) (W : World) : Prop :=
 (Limbs W (w.heap.size + 1 + 1) 129 4 (fun j => (limN (qAt N b (low - i)) j : Int)) ∧ Arr4 W (w.heap.size + 1 + 1 + 1) 24 (lim (N / 2 ^ (low - i) % b)) ∧ Arr4 W (w.heap.size + 1) 24 (lim b)) ∧ Below w.heap.size w W ∧ S0 ≤ W.heap.size
theorem DvSt4.own (w : World) (S0 N b low B : Nat) (hB : w.heap.size ≤ B) : OwnFrom B (fun i W => DvSt4 w S0 N b low i W) :=
 OwnFrom.and (OwnFrom.and (Own.from (Limbs.own _ _ _ _) _) (OwnFrom.and (Own.from (Arr4.own _ _ _) _) (Own.from (Arr4.own _ _ _) _))) (OwnFrom.and (ownFrom_below (Nat.le_refl _) hB) (size_own _ _))
theorem divide4_any (N b : Nat) (a : Nat → Int) (ha : ∀ j, j < 4 → a j = (limN N j : Int)) (hN : N < 18446744073709551616 ^ 4) (hb : W256 b) (hb0 : b ≠ 0) (w : World) :
  Calls Tryz.prog 140 #[.agg #[.int .u64 (a 0), .int .u64 (a 1), .int .u64 (a 2), .int .u64 (a 3)], .agg #[.int .u64 (lim b 0), .int .u64 (lim b 1), .int .u64 (lim b 2), .int .u64 (lim b 3)]] w fun e w' => e = .returned (.tuple #[.agg #[.int .u64 ((fun j => (limN (N / b) j : Int)) 0), .int .u64 ((fun j => (limN (N / b) j : Int)) 1), .int .u64 ((fun j => (limN (N / b) j : Int)) 2), .int .u64 ((fun j => (limN (N / b) j : Int)) 3)], wv (N % b)]) ∧ Below w.heap.size w w' := by
 have h1 : 1 ≤ 4 := by omega
 have LA : Limbs (w.alloc (.cells #[.int .u64 (a 0), .int .u64 (a 1), .int .u64 (a 2), .int .u64 (a 3)] 129)) w.heap.size 129 4 (fun j => (limN N j : Int)) := ⟨_, World.alloc_heap_new w _, rfl, fun j hj => by
  show _ = some (Value.int .u64 (limN N j : Int))
  rw [← ha j hj]
  rcases (show j = 0 ∨ j = 1 ∨ j = 2 ∨ j = 3 by omega) with rfl | rfl | rfl | rfl <;> rfl⟩
 have AB := Arr4.word (w.alloc (.cells #[.int .u64 (a 0), .int .u64 (a 1), .int .u64 (a 2), .int .u64 (a 3)] 129)) 24 b
 have LQ : Limbs (((w.alloc (.cells #[.int .u64 (a 0), .int .u64 (a 1), .int .u64 (a 2), .int .u64 (a 3)] 129)).alloc (.cells #[.int .u64 (lim b 0), .int .u64 (lim b 1), .int .u64 (lim b 2), .int .u64 (lim b 3)] 24)).alloc (.cells #[.int .u64 0, .int .u64 0, .int .u64 0, .int .u64 0] 129)) ((w.alloc (.cells #[.int .u64 (a 0), .int .u64 (a 1), .int .u64 (a 2), .int .u64 (a 3)] 129)).alloc (.cells #[.int .u64 (lim b 0), .int .u64 (lim b 1), .int .u64 (lim b 2), .int .u64 (lim b 3)] 24)).heap.size 129 4 (fun j => (limN 0 j : Int)) := ⟨_, World.alloc_heap_new ((w.alloc (.cells #[.int .u64 (a 0), .int .u64 (a 1), .int .u64 (a 2), .int .u64 (a 3)] 129)).alloc (.cells #[.int .u64 (lim b 0), .int .u64 (lim b 1), .int .u64 (lim b 2), .int .u64 (lim b 3)] 24)) _, rfl, fun j hj => by
  rcases (show j = 0 ∨ j = 1 ∨ j = 2 ∨ j = 3 by omega) with rfl | rfl | rfl | rfl <;> (simp [limN])⟩
 have AR := Arr4.mk0' (((w.alloc (.cells #[.int .u64 (a 0), .int .u64 (a 1), .int .u64 (a 2), .int .u64 (a 3)] 129)).alloc (.cells #[.int .u64 (lim b 0), .int .u64 (lim b 1), .int .u64 (lim b 2), .int .u64 (lim b 3)] 24)).alloc (.cells #[.int .u64 0, .int .u64 0, .int .u64 0, .int .u64 0] 129)) 24
 have LD := Limbs.of4 (show Arr4 (((((w.alloc (.cells #[.int .u64 (a 0), .int .u64 (a 1), .int .u64 (a 2), .int .u64 (a 3)] 129)).alloc (.cells #[.int .u64 (lim b 0), .int .u64 (lim b 1), .int .u64 (lim b 2), .int .u64 (lim b 3)] 24)).alloc (.cells #[.int .u64 0, .int .u64 0, .int .u64 0, .int .u64 0] 129)).alloc (.cells #[.int .u64 0, .int .u64 0, .int .u64 0, .int .u64 0] 24)).alloc (.cells #[.int .u64 (lim b 0), .int .u64 (lim b 1), .int .u64 (lim b 2), .int .u64 (lim b 3)] 129)) ((((w.alloc (.cells #[.int .u64 (a 0), .int .u64 (a 1), .int .u64 (a 2), .int .u64 (a 3)] 129)).alloc (.cells #[.int .u64 (lim b 0), .int .u64 (lim b 1), .int .u64 (lim b 2), .int .u64 (lim b 3)] 24)).alloc (.cells #[.int .u64 0, .int .u64 0, .int .u64 0, .int .u64 0] 129)).alloc (.cells #[.int .u64 0, .int .u64 0, .int .u64 0, .int .u64 0] 24)).heap.size 129 (lim b) from World.alloc_heap_new ((((w.alloc (.cells #[.int .u64 (a 0), .int .u64 (a 1), .int .u64 (a 2), .int .u64 (a 3)] 129)).alloc (.cells #[.int .u64 (lim b 0), .int .u64 (lim b 1), .int .u64 (lim b 2), .int .u64 (lim b 3)] 24)).alloc (.cells #[.int .u64 0, .int .u64 0, .int .u64 0, .int .u64 0] 129)).alloc (.cells #[.int .u64 0, .int .u64 0, .int .u64 0, .int .u64 0] 24)) _)
 have LA := (((LA.alloc (.cells #[.int .u64 (lim b 0), .int .u64 (lim b 1), .int .u64 (lim b 2), .int .u64 (lim b 3)] 24)).alloc (.cells #[.int .u64 0, .int .u64 0, .int .u64 0, .int .u64 0] 129)).alloc (.cells #[.int .u64 0, .int .u64 0, .int .u64 0, .int .u64 0] 24)).alloc (.cells #[.int .u64 (lim b 0), .int .u64 (lim b 1), .int .u64 (lim b 2), .int .u64 (lim b 3)] 129)
 have AB := ((AB.alloc (.cells #[.int .u64 0, .int .u64 0, .int .u64 0, .int .u64 0] 129)).alloc (.cells #[.int .u64 0, .int .u64 0, .int .u64 0, .int .u64 0] 24)).alloc (.cells #[.int .u64 (lim b 0), .int .u64 (lim b 1), .int .u64 (lim b 2), .int .u64 (lim b 3)] 129)
 have LQ := (LQ.alloc (.cells #[.int .u64 0, .int .u64 0, .int .u64 0, .int .u64 0] 24)).alloc (.cells #[.int .u64 (lim b 0), .int .u64 (lim b 1), .int .u64 (lim b 2), .int .u64 (lim b 3)] 129)
 have AR := AR.alloc (.cells #[.int .u64 (lim b 0), .int .u64 (lim b 1), .int .u64 (lim b 2), .int .u64 (lim b 3)] 129)
 have B0 := (((((Below.refl _ w).alloc (Nat.le_refl _) (.cells #[.int .u64 (a 0), .int .u64 (a 1), .int .u64 (a 2), .int .u64 (a 3)] 129)).alloc (by simp) (.cells #[.int .u64 (lim b 0), .int .u64 (lim b 1), .int .u64 (lim b 2), .int .u64 (lim b 3)] 24)).alloc (by simp; omega) (.cells #[.int .u64 0, .int .u64 0, .int .u64 0, .int .u64 0] 129)).alloc (by simp; omega) (.cells #[.int .u64 0, .int .u64 0, .int .u64 0, .int .u64 0] 24)).alloc (by simp; omega) (.cells #[.int .u64 (lim b 0), .int .u64 (lim b 1), .int .u64 (lim b 2), .int .u64 (lim b 3)] 129)
 have hsz : (((((w.alloc (.cells #[.int .u64 (a 0), .int .u64 (a 1), .int .u64 (a 2), .int .u64 (a 3)] 129)).alloc (.cells #[.int .u64 (lim b 0), .int .u64 (lim b 1), .int .u64 (lim b 2), .int .u64 (lim b 3)] 24)).alloc (.cells #[.int .u64 0, .int .u64 0, .int .u64 0, .int .u64 0] 129)).alloc (.cells #[.int .u64 0, .int .u64 0, .int .u64 0, .int .u64 0] 24)).alloc (.cells #[.int .u64 (lim b 0), .int .u64 (lim b 1), .int .u64 (lim b 2), .int .u64 (lim b 3)] 129)).heap.size = w.heap.size + 5 := by simp
 simp only [World.size_alloc] at AB LQ AR LD
 clear ha
 refine (callsIn_wide (n := 4)).1 ?_
 refine callsIn_of_wp_marks Tryz.func140 rfl trivial ?_ rfl
 simp only [Tryz.ntmps140, List.size_toArray, List.length_cons, List.length_nil, Nat.reduceAdd, Nat.reduceSub, Array.replicate_succ, Array.replicate_zero, List.push_toArray, List.append_toArray, List.nil_append, List.cons_append]
 gi_wp2_with fail
 obtain ⟨W0, hW0⟩ : ∃ W0, ((((w.alloc (.cells #[.int .u64 (a 0), .int .u64 (a 1), .int .u64 (a 2), .int .u64 (a 3)] 129)).alloc (.cells #[.int .u64 (lim b 0), .int .u64 (lim b 1), .int .u64 (lim b 2), .int .u64 (lim b 3)] 24)).alloc (.cells #[.int .u64 0, .int .u64 0, .int .u64 0, .int .u64 0] 129)).alloc (.cells #[.int .u64 0, .int .u64 0, .int .u64 0, .int .u64 0] 24)).alloc (.cells #[.int .u64 (lim b 0), .int .u64 (lim b 1), .int .u64 (lim b 2), .int .u64 (lim b 3)] 129) = W0 := ⟨_, rfl⟩
 rw [hW0] at LA AB LQ AR LD B0 hsz ⊢
 clear hW0
 refine (callsIn_free free_wide (length4_any (w.heap.size + 1 + 1 + 1 + 1) b (lim b) (fun j hj => limN_lim b j hj) hb W0 LD)).mono ?_
 rintro e w' ⟨⟨Lb, rfl, hLb, hLb9⟩, rfl⟩
 obtain ⟨hLb1, _⟩ := hLb.2.2 hb0
 have lb1 : ((Lb : Int) == 0) = false := by simp; omega
 have lb2 : ¬ (Lb : Int) = 0 := by omega
 gi_wp2_with fail
 refine (callsIn_free free_wide (length4_any w.heap.size N (fun j => (limN N j : Int)) (fun j _ => rfl) hN W0 LA)).mono ?_
 rintro e w' ⟨⟨La, rfl, hLa, hLa9⟩, rfl⟩
 gi_wp2_with fail
 refine (callsIn_free free_wide (length4_any (w.heap.size + 1 + 1 + 1 + 1) b (lim b) (fun j hj => limN_lim b j hj) hb W0 LD)).mono ?_
 rintro e w' ⟨⟨Lb', rfl, hLb', hLb9'⟩, rfl⟩
 have hlow := lenOk_low N b La Lb' hb0 hLa hLb'
 have i0 : (0 : Int) ≤ (La : Int) := by omega
 have i1 : (La : Int) ≤ 256 := by omega
 have i2 : (0 : Int) ≤ (Lb' : Int) := by omega
 have i3 : (Lb' : Int) ≤ 256 := by omega
 obtain ⟨low, hl⟩ : ∃ low, low = La + 1 - Lb' := ⟨_, rfl⟩
 rw [← hl] at hlow
 have hlow9 : low ≤ 256 := by
  obtain ⟨g, _⟩ := hLb'.2.2 hb0
  omega
 have hmax : max (0 : Int) ((La : Int) - (Lb' : Int) + 1) = (low : Int) := by omega
 clear hLb hLb9 hLa hLa9 hLb' hLb9' hl LD lb2
 ·skip
  have low0 : (0 : Int) ≤ (low : Int) := by omega
  have low1 : (low : Int) ≤ 256 := by omega
  have hw : wmod (N / 2 ^ low) = N / 2 ^ low := wmod_of (by unfold W256 at *; omega)
  have AA := above4_any w.heap.size N low hN (by omega) W0 LA
  rw [hw] at AA
  unfold wv at AA
  gi_wp2_with fail
  refine (callsIn_free free_wide AA).mono ?_
  rintro e W1 ⟨rfl, q⟩
  have LA := LA.later q
  have AB := AB.later' q
  have LQ := LQ.later q
  have AR := AR.later' q
  have B0 := B0.trans (q.mono B0.size)
  have hsz1 := q.size
  clear q AA
  have d0 := AR.cell (j := 0) (by omega)
  have d1 := AR.cell (j := 1) (by omega)
  have d2 := AR.cell (j := 2) (by omega)
  have d3 := AR.cell (j := 3) (by omega)
  have f0 := AR.frozen 0
  have f1 := AR.frozen 1
  have f2 := AR.frozen 2
  have f3 := AR.frozen 3
  gi_wp2_with fail
  clear d0 d1 d2 d3 f0 f1 f2 f3
  have LA := (((LA.other (p := ⟨w.heap.size + 1 + 1 + 1, 0, none⟩) (by first | (simp; done) | (simp; omega) | omega) (.int .u64 (lim (N / 2 ^ low) 0))).other (p := ⟨w.heap.size + 1 + 1 + 1, 1, none⟩) (by first | (simp; done) | (simp; omega) | omega) (.int .u64 (lim (N / 2 ^ low) 1))).other (p := ⟨w.heap.size + 1 + 1 + 1, 2, none⟩) (by first | (simp; done) | (simp; omega) | omega) (.int .u64 (lim (N / 2 ^ low) 2))).other (p := ⟨w.heap.size + 1 + 1 + 1, 3, none⟩) (by first | (simp; done) | (simp; omega) | omega) (.int .u64 (lim (N / 2 ^ low) 3))
  have LQ := (((LQ.other (p := ⟨w.heap.size + 1 + 1 + 1, 0, none⟩) (by first | (simp; done) | (simp; omega) | omega) (.int .u64 (lim (N / 2 ^ low) 0))).other (p := ⟨w.heap.size + 1 + 1 + 1, 1, none⟩) (by first | (simp; done) | (simp; omega) | omega) (.int .u64 (lim (N / 2 ^ low) 1))).other (p := ⟨w.heap.size + 1 + 1 + 1, 2, none⟩) (by first | (simp; done) | (simp; omega) | omega) (.int .u64 (lim (N / 2 ^ low) 2))).other (p := ⟨w.heap.size + 1 + 1 + 1, 3, none⟩) (by first | (simp; done) | (simp; omega) | omega) (.int .u64 (lim (N / 2 ^ low) 3))
  have AB := (((AB.other (p := ⟨w.heap.size + 1 + 1 + 1, 0, none⟩) (by first | (simp; done) | (simp; omega) | omega) (.int .u64 (lim (N / 2 ^ low) 0))).other (p := ⟨w.heap.size + 1 + 1 + 1, 1, none⟩) (by first | (simp; done) | (simp; omega) | omega) (.int .u64 (lim (N / 2 ^ low) 1))).other (p := ⟨w.heap.size + 1 + 1 + 1, 2, none⟩) (by first | (simp; done) | (simp; omega) | omega) (.int .u64 (lim (N / 2 ^ low) 2))).other (p := ⟨w.heap.size + 1 + 1 + 1, 3, none⟩) (by first | (simp; done) | (simp; omega) | omega) (.int .u64 (lim (N / 2 ^ low) 3))
  have AR := AR.store (lim (N / 2 ^ low))
  have B0 := (((B0.setCell (p := ⟨w.heap.size + 1 + 1 + 1, 0, none⟩) (by simp; omega) (.int .u64 (lim (N / 2 ^ low) 0))).setCell (p := ⟨w.heap.size + 1 + 1 + 1, 1, none⟩) (by simp; omega) (.int .u64 (lim (N / 2 ^ low) 1))).setCell (p := ⟨w.heap.size + 1 + 1 + 1, 2, none⟩) (by simp; omega) (.int .u64 (lim (N / 2 ^ low) 2))).setCell (p := ⟨w.heap.size + 1 + 1 + 1, 3, none⟩) (by simp; omega) (.int .u64 (lim (N / 2 ^ low) 3))
  have hsz2 : w.heap.size + 5 ≤ ((((W1.setCell ⟨w.heap.size + 1 + 1 + 1, 0, none⟩ (.int .u64 (lim (N / 2 ^ low) 0))).setCell ⟨w.heap.size + 1 + 1 + 1, 1, none⟩ (.int .u64 (lim (N / 2 ^ low) 1))).setCell ⟨w.heap.size + 1 + 1 + 1, 2, none⟩ (.int .u64 (lim (N / 2 ^ low) 2))).setCell ⟨w.heap.size + 1 + 1 + 1, 3, none⟩ (.int .u64 (lim (N / 2 ^ low) 3))).heap.size := by simp [World.setCell]; omega
  obtain ⟨W2, hW2⟩ : ∃ W2, (((W1.setCell ⟨w.heap.size + 1 + 1 + 1, 0, none⟩ (.int .u64 (lim (N / 2 ^ low) 0))).setCell ⟨w.heap.size + 1 + 1 + 1, 1, none⟩ (.int .u64 (lim (N / 2 ^ low) 1))).setCell ⟨w.heap.size + 1 + 1 + 1, 2, none⟩ (.int .u64 (lim (N / 2 ^ low) 2))).setCell ⟨w.heap.size + 1 + 1 + 1, 3, none⟩ (.int .u64 (lim (N / 2 ^ low) 3)) = W2 := ⟨_, rfl⟩
  rw [hW2] at LA LQ AB AR B0 hsz2 ⊢
  clear hW2 hsz1
  refine (callsIn_free free_wide (bits4_any w.heap.size (low : Int) W2)).mono ?_
  rintro e w' ⟨rfl, rfl⟩
  gi_wp2
  have LA := (LA.alloc (.cells #[.pointer (some ⟨w.heap.size, 0, none⟩)] 151)).alloc (.cells #[.int .i64 (low : Int)] 3)
  have LQ := (LQ.alloc (.cells #[.pointer (some ⟨w.heap.size, 0, none⟩)] 151)).alloc (.cells #[.int .i64 (low : Int)] 3)
  have AB := (AB.alloc (.cells #[.pointer (some ⟨w.heap.size, 0, none⟩)] 151)).alloc (.cells #[.int .i64 (low : Int)] 3)
  have AR := (AR.alloc (.cells #[.pointer (some ⟨w.heap.size, 0, none⟩)] 151)).alloc (.cells #[.int .i64 (low : Int)] 3)
  have B0 := (B0.alloc (by omega) (.cells #[.pointer (some ⟨w.heap.size, 0, none⟩)] 151)).alloc (by simp; omega) (.cells #[.int .i64 (low : Int)] 3)
  have bX := (Boxed.new W2 151 (.pointer (some ⟨w.heap.size, 0, none⟩))).alloc (.cells #[.int .i64 (low : Int)] 3)
  have bI := Boxed.new (W2.alloc (.cells #[.pointer (some ⟨w.heap.size, 0, none⟩)] 151)) 3 (.int .i64 (low : Int))
  have hsz3 : ((W2.alloc (.cells #[.pointer (some ⟨w.heap.size, 0, none⟩)] 151)).alloc (.cells #[.int .i64 (low : Int)] 3)).heap.size = W2.heap.size + 2 := by simp
  rw [World.size_alloc] at bI
  obtain ⟨W3, hW3⟩ : ∃ W3, (W2.alloc (.cells #[.pointer (some ⟨w.heap.size, 0, none⟩)] 151)).alloc (.cells #[.int .i64 (low : Int)] 3) = W3 := ⟨_, rfl⟩
  rw [hW3] at LA LQ AB AR B0 bX bI hsz3 ⊢
  clear hW3
  generalize W2.heap.size = bs at *
  have q0 : qAt N b low = 0 := by unfold qAt; rw [Nat.div_eq_of_lt hlow, Nat.zero_mul]
  have r0 : N / 2 ^ low % b = N / 2 ^ low := Nat.mod_eq_of_lt hlow
  have hbpos : 0 < b := by omega
  have hI0 : DvSt4 w (bs + 2) N b low 0 W3 := by
   refine ⟨⟨LQ.same (by rw [Nat.sub_zero, q0]), ?_, AB⟩, B0, by omega⟩
   rw [Nat.sub_zero, r0]
   exact AR
  refine wpIn_rangeFunc_N1 rfl h1 (gf := 164) (lb := #[.pointer (some ⟨bs + 1, 0, none⟩), .pointer (some ⟨bs, 0, none⟩)]) rfl trivial (enters_of Tryz.func164 (by kernel_rfl) rfl)
   (bits4_seq _ (by omega) (bs + 1) bs w.heap.size low N (by omega) W3 (by omega) (by omega) (by omega) bI.cell bX.cell (fun j hj => LA.cell hj)) KeepsAt.trans (KeepsAt.refl _) (KeepsAt.b (by simp; omega)) (fun _ _ => rfl)
   (fun i W => DvSt4 w (bs + 2) N b low i W)
   (fun _ _ _ => False)
   (DvSt4.own w (bs + 2) N b low _ (by omega))
   (fun _ _ _ _ _ hs _ _ => hs)
   hI0
   (fun i => { tmps := #[.agg #[.int .u64 (a 0), .int .u64 (a 1), .int .u64 (a 2), .int .u64 (a 3)], .agg #[.int .u64 (lim b 0), .int .u64 (lim b 1), .int .u64 (lim b 2), .int .u64 (lim b 3)], .pointer (some ⟨w.heap.size, 0, none⟩), .pointer (some ⟨w.heap.size + 1, 0, none⟩), .pointer (some ⟨w.heap.size + 1 + 1, 0, none⟩), .pointer (some ⟨w.heap.size + 1 + 1 + 1, 0, none⟩), .pointer (some ⟨w.heap.size + 1 + 1 + 1 + 1, 0, none⟩), .int .i64 (low : Int), .int .i64 ((low - 1 - i : Nat) : Int), .int .u64 ((N / 2 ^ (low - 1 - i) % 2 : Nat) : Int), .agg #[.int .u64 (lim b 0), .int .u64 (lim b 1), .int .u64 (lim b 2), .int .u64 (lim b 3)], .agg #[.int .u64 (lim b 0), .int .u64 (lim b 1), .int .u64 (lim b 2), .int .u64 (lim b 3)], .int .i64 (Lb : Int), .bool false, undef, undef, .int .i64 (La : Int), .int .i64 (Lb' : Int), .int .i64 ((La : Int) - (Lb' : Int)), .int .i64 ((La : Int) - (Lb' : Int) + 1), .int .i64 (low : Int), .int .i64 (low : Int), .agg #[.int .u64 (lim (N / 2 ^ low) 0), .int .u64 (lim (N / 2 ^ low) 1), .int .u64 (lim (N / 2 ^ low) 2), .int .u64 (lim (N / 2 ^ low) 3)], .int .i64 (low : Int), .func (.func 164) #[] #[.pointer (some ⟨bs + 1, 0, none⟩), .pointer (some ⟨bs, 0, none⟩)], .int .i64 ((low - 1 - i : Nat) : Int), .int .u64 ((N / 2 ^ (low - 1 - i) % 2 : Nat) : Int), undef, undef, undef, undef, undef, undef, undef, undef, undef, undef, undef, undef, undef, undef, undef], defers := [] }) ?assign ?body ?done ?stop
  case assign =>
   intro l i W K _ hK
   gi_wp2
   exact hK
  case body =>
   rintro l i W _ hi ⟨⟨lq, ar, ab⟩, hB, hs⟩
   obtain ⟨p, hp⟩ : ∃ p, p = low - 1 - i := ⟨_, rfl⟩
   have hp1 : low - i = p + 1 := by omega
   have hp2 : low - (i + 1) = p := by omega
   rw [hp1] at lq ar
   rw [← hp]
   have hbit : N / 2 ^ p % 2 ≤ 1 := by omega
   have BD := bringDown_any (N / 2 ^ (p + 1) % b) b (N / 2 ^ p % 2) (w.heap.size + 1 + 1 + 1) (w.heap.size + 1) (Nat.mod_lt _ hbpos) hb hbit (by omega) W ar ab
   obtain ⟨hmod, hq1, hq2⟩ := bd_mod N b hbpos p
   obtain ⟨hs1, hs2⟩ := qAt_step N b p hbpos
   rw [hmod] at BD
   have HPW : p < 256 := by omega
   have HI := Lib.hid hi
   have HB := Lib.hid hB
   have HS := Lib.hid hs
   have HLQ := Lib.hid lq
   have HAR := Lib.hid ar
   have HAB := Lib.hid ab
   have HP2 := Lib.hid hp2
   have bt0 : (0 : Int) ≤ ((N / 2 ^ p % 2 : Nat) : Int) := by omega
   have bt1 : ((N / 2 ^ p % 2 : Nat) : Int) ≤ 1 := by omega
   have pI0 : (0 : Int) ≤ (p : Int) := by omega
   have pI1 : (p : Int) < 256 := by omega
   by_cases hle : b ≤ 2 * (N / 2 ^ (p + 1) % b) + N / 2 ^ p % 2
   ·rw [decide_eq_true hle] at BD
    have hqv := hs1 hle
    obtain ⟨qq, r, hqr, hr⟩ : ∃ qq r, p = 64 * qq + r ∧ r < 64 := ⟨p / 64, p % 64, by omega, by omega⟩
    have HADD : Hid (∀ j, limN (qAt N b p) j = if j = qq then Nat.lor (limN (qAt N b (p + 1)) qq) (2 ^ r) else limN (qAt N b (p + 1)) j) := fun j => by
     rw [hqv]
     unfold qAt
     rw [hqr]
     exact limN_addbit _ qq r j hr
    have hq4 : qq < 4 := by omega
    have t1 : ((p : Int)).tdiv 64 = (qq : Int) := by rw [Int.tdiv_eq_ediv_of_nonneg (by omega)]; omega
    have t2 : ((p : Int)).tmod 64 = (r : Int) := by rw [Int.tmod_eq_emod_of_nonneg (by omega)]; omega
    have qI0 : (0 : Int) ≤ (qq : Int) := by omega
    have qI1 : (qq : Int) < 4 := by omega
    have rI0 : (0 : Int) ≤ (r : Int) := by omega
    have rI1 : (r : Int) < 64 := by omega
    have hu := limN_lt (qAt N b (p + 1)) qq
    have hpw : 2 ^ r < 18446744073709551616 := by
     have h2 : 2 ^ r ≤ 2 ^ 63 := Nat.pow_le_pow_right (by decide) (by omega)
     exact Nat.lt_of_le_of_lt h2 (by decide)
    have hw2 : IntKind.u64.wrap ((2 : Int) ^ r) = ((2 ^ r : Nat) : Int) := by
     have e1 : (2 : Int) ^ r = ((2 ^ r : Nat) : Int) := by rw [Int.natCast_pow]; rfl
     rw [e1]
     exact wrap_nat _ hpw
    have hor : bits .or .u64 (limN (qAt N b (p + 1)) qq : Int) ((2 ^ r : Nat) : Int) = ((Nat.lor (limN (qAt N b (p + 1)) qq) (2 ^ r) : Nat) : Int) := u64_or_nat _ _ hu hpw
    have u0 : (0 : Int) ≤ (limN (qAt N b (p + 1)) qq : Int) := by omega
    have u1 : (limN (qAt N b (p + 1)) qq : Int) < 18446744073709551616 := by omega
    have HQ4 := Lib.hid hq4
    have HUU : Hid (limN (qAt N b (p + 1)) qq = limN (qAt N b (p + 1)) qq) := rfl
    have hmx : Tryz.prog.follows .mixedOrders = true := by kernel_rfl
    generalize hun : limN (qAt N b (p + 1)) qq = un at *
    have HUN := Lib.hid hun
    generalize hon : Nat.lor un (2 ^ r) = on at *
    generalize hpn : ((2 ^ r : Nat) : Int) = pw at *
    clear hmod hq1 hq2 hs1 hs2 hle hqv hqr hr hq4 hu hpw hi hB hs lq ar ab hp hp1 hp2 hun hon hpn HUU
    gi_wp2_with fail
    refine (callsIn_free (free_round l) BD).mono ?_
    rintro e W4 ⟨rfl, aR4, hG⟩
    have lq4 := HLQ.out.kept hG (by simp)
    have ab4 := HAB.out.kept hG (by simp)
    have hsz4 := hG.size
    have cq := lq4.cell HQ4.out
    simp only [HUN.out] at cq
    have fq := lq4.frozen qq
    have HL4 := Lib.hid lq4
    have HR4 := Lib.hid aR4
    have HB4 := Lib.hid ab4
    have HG := Lib.hid hG
    have e1 : ∀ x : Ext W4, x.w.cell? ⟨w.heap.size + 1 + 1, qq, none⟩ = some (.int .u64 (un : Int)) := fun x => (x.cell (p := ⟨_, qq, none⟩) HL4.out.lt).trans cq
    have g1 : ∀ x : Ext W4, x.w.frozen? ⟨w.heap.size + 1 + 1, qq, none⟩ = false := fun x => (x.frozen (p := ⟨_, qq, none⟩) HL4.out.lt).trans fq
    clear lq4 ab4 aR4 hG cq fq BD
    gi_wp2
    refine wpIn_region_mix (C := Grows W4) (free_round l) [some true, some true, some true, some true, some true, some true, some true, some true, some true, some true, some true, none] hmx (by kernel_rfl) (by kernel_rfl) (grows_refl W4) ?_
    simp only [headOf, tailOf]
    repeat (go_big_quiet_step (fail))
    refine wpQuiet_nil ?_
    rintro _ ⟨x, rfl⟩
    have N1 := Lib.hid ((HL4.out.later x.below).set HQ4.out (on : Int))
    have N2 := Lib.hid ((HR4.out.later' x.below).other (p := ⟨w.heap.size + 1 + 1, qq, none⟩) (by simp) (.int .u64 (on : Int)))
    have N3 := Lib.hid ((HB4.out.later' x.below).other (p := ⟨w.heap.size + 1 + 1, qq, none⟩) (by simp) (.int .u64 (on : Int)))
    have N4 := Lib.hid (((below_grown HB.out HG.out (by omega) HB.out.size).trans (x.below.mono (by have := HB.out.size; omega))).setCell (p := ⟨w.heap.size + 1 + 1, qq, none⟩) (by simp; omega) (.int .u64 (on : Int)))
    have hxs := x.below.size
    go_wp2
    rw [calmPost_normal]
    refine ⟨((keepsFrom_grown HG.out ⟨_, _, HAR.out⟩).trans (x.keeps _)).trans ((KeepsOthers.setCell _ _ _).from _), ?_, ⟨?_, ?_, N3.out⟩, N4.out, ?_⟩
    ·refine (((KeepsAt.refl _ _).grown HG.out (fun y hy => ?_)).below x.below (fun y hy => ?_)).setCell ?_ _
     ·have := HS.out; simp at hy; omega
     ·have := HS.out; simp at hy; omega
     ·simp; omega
    ·rw [HP2.out]
     refine N1.out.same ?_
     funext j
     show (if j = qq then (on : Int) else _) = _
     rw [HADD.out j]
     by_cases hj : j = qq
     ·rw [if_pos hj, if_pos hj]
     ·rw [if_neg hj, if_neg hj]
    ·rw [HP2.out]; exact N2.out
    ·have := HS.out; simp [World.setCell]; omega
   ·rw [decide_eq_false hle] at BD
    have hqv := hs2 hle
    have HQV := Lib.hid hqv
    clear hmod hq1 hq2 hs1 hs2 hle hqv hi hB hs lq ar ab hp hp1 hp2
    gi_wp2_with fail
    refine (callsIn_free (free_round l) BD).mono ?_
    rintro e W4 ⟨rfl, aR4, hG⟩
    have N1 := HLQ.out.kept hG (by simp)
    have N3 := HAB.out.kept hG (by simp)
    have hsz4 := hG.size
    gi_wp2
    refine ⟨keepsFrom_grown hG ⟨_, _, HAR.out⟩, (KeepsAt.refl _ _).grown hG (fun y hy => ?_), ⟨?_, ?_, N3⟩, below_grown HB.out hG (by omega) HB.out.size, by have := HS.out; omega⟩
    ·have := HS.out; simp at hy; omega
    ·rw [HP2.out, HQV.out]; exact N1
    ·rw [HP2.out]; exact aR4
  case done =>
   rintro D W hD ⟨⟨lq, ar, ab⟩, hB, hs⟩ hK
   rw [Nat.sub_self] at lq ar
   have eQ : qAt N b 0 = N / b := by unfold qAt; rw [Nat.pow_zero, Nat.div_one, Nat.mul_one]
   rw [Nat.pow_zero, Nat.div_one] at ar
   have lq := lq.same (m' := fun j => (limN (N / b) j : Int)) (by rw [eQ])
   have HLQ := Lib.hid lq
   have HAR := Lib.hid ar
   have HB := Lib.hid hB
   have hmx : Tryz.prog.follows .mixedOrders = true := by kernel_rfl
   have c0 := lq.cell (j := 0) (by omega)
   have c1 := lq.cell (j := 1) (by omega)
   have c2 := lq.cell (j := 2) (by omega)
   have c3 := lq.cell (j := 3) (by omega)
   have f0 := lq.frozen 0
   have f1 := lq.frozen 1
   have f2 := lq.frozen 2
   have f3 := lq.frozen 3
   have d0 := ar.cell (j := 0) (by omega)
   have d1 := ar.cell (j := 1) (by omega)
   have d2 := ar.cell (j := 2) (by omega)
   have d3 := ar.cell (j := 3) (by omega)
   have g0 := ar.frozen 0
   have g1 := ar.frozen 1
   have g2 := ar.frozen 2
   have g3 := ar.frozen 3
   have HS := Lib.hid hs
   have hDl : w.heap.size + 5 ≤ D := by have := HS.out; omega
   have sc0 := setCell_same c0
   have sc1 := setCell_same c1
   have sc2 := setCell_same c2
   have sc3 := setCell_same c3
   have sd0 := setCell_same d0
   have sd1 := setCell_same d1
   have sd2 := setCell_same d2
   have sd3 := setCell_same d3
   clear lq ar ab hB hs
   gi_wp2
   gi_region_o
   all_goals (try simp only [sc0, sc1, sc2, sc3, sd0, sd1, sd2, sd3])
   all_goals gi_wp2
   all_goals (try simp only [sc0, sc1, sc2, sc3, sd0, sd1, sd2, sd3])
   all_goals
    have hK' : W.drew.heap[D]? = some (.deferred (some [])) := hK
    have l9 := (show Limbs W.drew (w.heap.size + 1 + 1) 129 4 (fun j => (limN (N / b) j : Int)) from HLQ.out).kept (grownBy_putObj' W.drew D (.deferred none)) (fun e => by injection e with e; omega)
    have a9 := (show Arr4 W.drew (w.heap.size + 1 + 1 + 1) 24 (lim (N % b)) from HAR.out).kept (grownBy_putObj' W.drew D (.deferred none)) (fun e => by injection e with e; omega)
    clear c0 f0 sc0 c1 f1 sc1 c2 f2 sc2 c3 f3 sc3 d0 g0 sd0 d1 g1 sd1 d2 g2 sd2 d3 g3 sd3
    refine ⟨by simp, .inl ⟨_, _, rfl, run_takeDeferred hK', ?_⟩⟩
    have e0 := l9.cell (j := 0) (by omega)
    have e1 := l9.cell (j := 1) (by omega)
    have e2 := l9.cell (j := 2) (by omega)
    have e3 := l9.cell (j := 3) (by omega)
    have v0 := a9.cell (j := 0) (by omega)
    have v1 := a9.cell (j := 1) (by omega)
    have v2 := a9.cell (j := 2) (by omega)
    have v3 := a9.cell (j := 3) (by omega)
    exact ⟨_, by simp [results, Tryz.f140, go_sem, e0, e1, e2, e3, v0, v1, v2, v3]; rfl, rfl, HB.out.drew.trans (belowK_b (w := w) (Nat.le_refl _) _ D _ _ (by omega) hK' rfl rfl)⟩
  case stop =>
   rintro D c i W _ _ h _
   exact h.elim
def DvSt8 (w : World) (S0 N b low i : Nat) (W : World) : Prop :=
 (Limbs W (w.heap.size + 1 + 1) 143 8 (fun j => (limN (qAt N b (low - i)) j : Int)) ∧ Arr4 W (w.heap.size + 1 + 1 + 1) 24 (lim (N / 2 ^ (low - i) % b)) ∧ Arr4 W (w.heap.size + 1) 24 (lim b)) ∧ Below w.heap.size w W ∧ S0 ≤ W.heap.size
theorem DvSt8.own (w : World) (S0 N b low B : Nat) (hB : w.heap.size ≤ B) : OwnFrom B (fun i W => DvSt8 w S0 N b low i W) :=
 OwnFrom.and (OwnFrom.and (Own.from (Limbs.own _ _ _ _) _) (OwnFrom.and (Own.from (Arr4.own _ _ _) _) (Own.from (Arr4.own _ _ _) _))) (OwnFrom.and (ownFrom_below (Nat.le_refl _) hB) (size_own _ _))
theorem divide8_any (N b : Nat) (a : Nat → Int) (ha : ∀ j, j < 8 → a j = (limN N j : Int)) (hN : N < 18446744073709551616 ^ 8) (hb : W256 b) (hb0 : b ≠ 0) (w : World) :
  Calls Tryz.prog 156 #[.agg #[.int .u64 (a 0), .int .u64 (a 1), .int .u64 (a 2), .int .u64 (a 3), .int .u64 (a 4), .int .u64 (a 5), .int .u64 (a 6), .int .u64 (a 7)], .agg #[.int .u64 (lim b 0), .int .u64 (lim b 1), .int .u64 (lim b 2), .int .u64 (lim b 3)]] w fun e w' => e = .returned (.tuple #[.agg #[.int .u64 ((fun j => (limN (N / b) j : Int)) 0), .int .u64 ((fun j => (limN (N / b) j : Int)) 1), .int .u64 ((fun j => (limN (N / b) j : Int)) 2), .int .u64 ((fun j => (limN (N / b) j : Int)) 3), .int .u64 ((fun j => (limN (N / b) j : Int)) 4), .int .u64 ((fun j => (limN (N / b) j : Int)) 5), .int .u64 ((fun j => (limN (N / b) j : Int)) 6), .int .u64 ((fun j => (limN (N / b) j : Int)) 7)], wv (N % b)]) ∧ Below w.heap.size w w' := by
 have h1 : 1 ≤ 4 := by omega
 have LA : Limbs (w.alloc (.cells #[.int .u64 (a 0), .int .u64 (a 1), .int .u64 (a 2), .int .u64 (a 3), .int .u64 (a 4), .int .u64 (a 5), .int .u64 (a 6), .int .u64 (a 7)] 143)) w.heap.size 143 8 (fun j => (limN N j : Int)) := ⟨_, World.alloc_heap_new w _, rfl, fun j hj => by
  show _ = some (Value.int .u64 (limN N j : Int))
  rw [← ha j hj]
  rcases (show j = 0 ∨ j = 1 ∨ j = 2 ∨ j = 3 ∨ j = 4 ∨ j = 5 ∨ j = 6 ∨ j = 7 by omega) with rfl | rfl | rfl | rfl | rfl | rfl | rfl | rfl <;> rfl⟩
 have AB := Arr4.word (w.alloc (.cells #[.int .u64 (a 0), .int .u64 (a 1), .int .u64 (a 2), .int .u64 (a 3), .int .u64 (a 4), .int .u64 (a 5), .int .u64 (a 6), .int .u64 (a 7)] 143)) 24 b
 have LQ : Limbs (((w.alloc (.cells #[.int .u64 (a 0), .int .u64 (a 1), .int .u64 (a 2), .int .u64 (a 3), .int .u64 (a 4), .int .u64 (a 5), .int .u64 (a 6), .int .u64 (a 7)] 143)).alloc (.cells #[.int .u64 (lim b 0), .int .u64 (lim b 1), .int .u64 (lim b 2), .int .u64 (lim b 3)] 24)).alloc (.cells #[.int .u64 0, .int .u64 0, .int .u64 0, .int .u64 0, .int .u64 0, .int .u64 0, .int .u64 0, .int .u64 0] 143)) ((w.alloc (.cells #[.int .u64 (a 0), .int .u64 (a 1), .int .u64 (a 2), .int .u64 (a 3), .int .u64 (a 4), .int .u64 (a 5), .int .u64 (a 6), .int .u64 (a 7)] 143)).alloc (.cells #[.int .u64 (lim b 0), .int .u64 (lim b 1), .int .u64 (lim b 2), .int .u64 (lim b 3)] 24)).heap.size 143 8 (fun j => (limN 0 j : Int)) := ⟨_, World.alloc_heap_new ((w.alloc (.cells #[.int .u64 (a 0), .int .u64 (a 1), .int .u64 (a 2), .int .u64 (a 3), .int .u64 (a 4), .int .u64 (a 5), .int .u64 (a 6), .int .u64 (a 7)] 143)).alloc (.cells #[.int .u64 (lim b 0), .int .u64 (lim b 1), .int .u64 (lim b 2), .int .u64 (lim b 3)] 24)) _, rfl, fun j hj => by
  rcases (show j = 0 ∨ j = 1 ∨ j = 2 ∨ j = 3 ∨ j = 4 ∨ j = 5 ∨ j = 6 ∨ j = 7 by omega) with rfl | rfl | rfl | rfl | rfl | rfl | rfl | rfl <;> (simp [limN])⟩
 have AR := Arr4.mk0' (((w.alloc (.cells #[.int .u64 (a 0), .int .u64 (a 1), .int .u64 (a 2), .int .u64 (a 3), .int .u64 (a 4), .int .u64 (a 5), .int .u64 (a 6), .int .u64 (a 7)] 143)).alloc (.cells #[.int .u64 (lim b 0), .int .u64 (lim b 1), .int .u64 (lim b 2), .int .u64 (lim b 3)] 24)).alloc (.cells #[.int .u64 0, .int .u64 0, .int .u64 0, .int .u64 0, .int .u64 0, .int .u64 0, .int .u64 0, .int .u64 0] 143)) 24
 have LD := Limbs.of4 (show Arr4 (((((w.alloc (.cells #[.int .u64 (a 0), .int .u64 (a 1), .int .u64 (a 2), .int .u64 (a 3), .int .u64 (a 4), .int .u64 (a 5), .int .u64 (a 6), .int .u64 (a 7)] 143)).alloc (.cells #[.int .u64 (lim b 0), .int .u64 (lim b 1), .int .u64 (lim b 2), .int .u64 (lim b 3)] 24)).alloc (.cells #[.int .u64 0, .int .u64 0, .int .u64 0, .int .u64 0, .int .u64 0, .int .u64 0, .int .u64 0, .int .u64 0] 143)).alloc (.cells #[.int .u64 0, .int .u64 0, .int .u64 0, .int .u64 0] 24)).alloc (.cells #[.int .u64 (lim b 0), .int .u64 (lim b 1), .int .u64 (lim b 2), .int .u64 (lim b 3)] 129)) ((((w.alloc (.cells #[.int .u64 (a 0), .int .u64 (a 1), .int .u64 (a 2), .int .u64 (a 3), .int .u64 (a 4), .int .u64 (a 5), .int .u64 (a 6), .int .u64 (a 7)] 143)).alloc (.cells #[.int .u64 (lim b 0), .int .u64 (lim b 1), .int .u64 (lim b 2), .int .u64 (lim b 3)] 24)).alloc (.cells #[.int .u64 0, .int .u64 0, .int .u64 0, .int .u64 0, .int .u64 0, .int .u64 0, .int .u64 0, .int .u64 0] 143)).alloc (.cells #[.int .u64 0, .int .u64 0, .int .u64 0, .int .u64 0] 24)).heap.size 129 (lim b) from World.alloc_heap_new ((((w.alloc (.cells #[.int .u64 (a 0), .int .u64 (a 1), .int .u64 (a 2), .int .u64 (a 3), .int .u64 (a 4), .int .u64 (a 5), .int .u64 (a 6), .int .u64 (a 7)] 143)).alloc (.cells #[.int .u64 (lim b 0), .int .u64 (lim b 1), .int .u64 (lim b 2), .int .u64 (lim b 3)] 24)).alloc (.cells #[.int .u64 0, .int .u64 0, .int .u64 0, .int .u64 0, .int .u64 0, .int .u64 0, .int .u64 0, .int .u64 0] 143)).alloc (.cells #[.int .u64 0, .int .u64 0, .int .u64 0, .int .u64 0] 24)) _)
 have LA := (((LA.alloc (.cells #[.int .u64 (lim b 0), .int .u64 (lim b 1), .int .u64 (lim b 2), .int .u64 (lim b 3)] 24)).alloc (.cells #[.int .u64 0, .int .u64 0, .int .u64 0, .int .u64 0, .int .u64 0, .int .u64 0, .int .u64 0, .int .u64 0] 143)).alloc (.cells #[.int .u64 0, .int .u64 0, .int .u64 0, .int .u64 0] 24)).alloc (.cells #[.int .u64 (lim b 0), .int .u64 (lim b 1), .int .u64 (lim b 2), .int .u64 (lim b 3)] 129)
 have AB := ((AB.alloc (.cells #[.int .u64 0, .int .u64 0, .int .u64 0, .int .u64 0, .int .u64 0, .int .u64 0, .int .u64 0, .int .u64 0] 143)).alloc (.cells #[.int .u64 0, .int .u64 0, .int .u64 0, .int .u64 0] 24)).alloc (.cells #[.int .u64 (lim b 0), .int .u64 (lim b 1), .int .u64 (lim b 2), .int .u64 (lim b 3)] 129)
 have LQ := (LQ.alloc (.cells #[.int .u64 0, .int .u64 0, .int .u64 0, .int .u64 0] 24)).alloc (.cells #[.int .u64 (lim b 0), .int .u64 (lim b 1), .int .u64 (lim b 2), .int .u64 (lim b 3)] 129)
 have AR := AR.alloc (.cells #[.int .u64 (lim b 0), .int .u64 (lim b 1), .int .u64 (lim b 2), .int .u64 (lim b 3)] 129)
 have B0 := (((((Below.refl _ w).alloc (Nat.le_refl _) (.cells #[.int .u64 (a 0), .int .u64 (a 1), .int .u64 (a 2), .int .u64 (a 3), .int .u64 (a 4), .int .u64 (a 5), .int .u64 (a 6), .int .u64 (a 7)] 143)).alloc (by simp) (.cells #[.int .u64 (lim b 0), .int .u64 (lim b 1), .int .u64 (lim b 2), .int .u64 (lim b 3)] 24)).alloc (by simp; omega) (.cells #[.int .u64 0, .int .u64 0, .int .u64 0, .int .u64 0, .int .u64 0, .int .u64 0, .int .u64 0, .int .u64 0] 143)).alloc (by simp; omega) (.cells #[.int .u64 0, .int .u64 0, .int .u64 0, .int .u64 0] 24)).alloc (by simp; omega) (.cells #[.int .u64 (lim b 0), .int .u64 (lim b 1), .int .u64 (lim b 2), .int .u64 (lim b 3)] 129)
 have hsz : (((((w.alloc (.cells #[.int .u64 (a 0), .int .u64 (a 1), .int .u64 (a 2), .int .u64 (a 3), .int .u64 (a 4), .int .u64 (a 5), .int .u64 (a 6), .int .u64 (a 7)] 143)).alloc (.cells #[.int .u64 (lim b 0), .int .u64 (lim b 1), .int .u64 (lim b 2), .int .u64 (lim b 3)] 24)).alloc (.cells #[.int .u64 0, .int .u64 0, .int .u64 0, .int .u64 0, .int .u64 0, .int .u64 0, .int .u64 0, .int .u64 0] 143)).alloc (.cells #[.int .u64 0, .int .u64 0, .int .u64 0, .int .u64 0] 24)).alloc (.cells #[.int .u64 (lim b 0), .int .u64 (lim b 1), .int .u64 (lim b 2), .int .u64 (lim b 3)] 129)).heap.size = w.heap.size + 5 := by simp
 simp only [World.size_alloc] at AB LQ AR LD
 clear ha
 refine (callsIn_wide (n := 4)).1 ?_
 refine callsIn_of_wp_marks Tryz.func156 rfl trivial ?_ rfl
 simp only [Tryz.ntmps156, List.size_toArray, List.length_cons, List.length_nil, Nat.reduceAdd, Nat.reduceSub, Array.replicate_succ, Array.replicate_zero, List.push_toArray, List.append_toArray, List.nil_append, List.cons_append]
 gi_wp2_with fail
 obtain ⟨W0, hW0⟩ : ∃ W0, ((((w.alloc (.cells #[.int .u64 (a 0), .int .u64 (a 1), .int .u64 (a 2), .int .u64 (a 3), .int .u64 (a 4), .int .u64 (a 5), .int .u64 (a 6), .int .u64 (a 7)] 143)).alloc (.cells #[.int .u64 (lim b 0), .int .u64 (lim b 1), .int .u64 (lim b 2), .int .u64 (lim b 3)] 24)).alloc (.cells #[.int .u64 0, .int .u64 0, .int .u64 0, .int .u64 0, .int .u64 0, .int .u64 0, .int .u64 0, .int .u64 0] 143)).alloc (.cells #[.int .u64 0, .int .u64 0, .int .u64 0, .int .u64 0] 24)).alloc (.cells #[.int .u64 (lim b 0), .int .u64 (lim b 1), .int .u64 (lim b 2), .int .u64 (lim b 3)] 129) = W0 := ⟨_, rfl⟩
 rw [hW0] at LA AB LQ AR LD B0 hsz ⊢
 clear hW0
 refine (callsIn_free free_wide (length4_any (w.heap.size + 1 + 1 + 1 + 1) b (lim b) (fun j hj => limN_lim b j hj) hb W0 LD)).mono ?_
 rintro e w' ⟨⟨Lb, rfl, hLb, hLb9⟩, rfl⟩
 obtain ⟨hLb1, _⟩ := hLb.2.2 hb0
 have lb1 : ((Lb : Int) == 0) = false := by simp; omega
 have lb2 : ¬ (Lb : Int) = 0 := by omega
 gi_wp2_with fail
 refine (callsIn_free free_wide (length8_any w.heap.size N (fun j => (limN N j : Int)) (fun j _ => rfl) hN W0 LA)).mono ?_
 rintro e w' ⟨⟨La, rfl, hLa, hLa9⟩, rfl⟩
 gi_wp2_with fail
 refine (callsIn_free free_wide (length4_any (w.heap.size + 1 + 1 + 1 + 1) b (lim b) (fun j hj => limN_lim b j hj) hb W0 LD)).mono ?_
 rintro e w' ⟨⟨Lb', rfl, hLb', hLb9'⟩, rfl⟩
 have hlow := lenOk_low N b La Lb' hb0 hLa hLb'
 have i0 : (0 : Int) ≤ (La : Int) := by omega
 have i1 : (La : Int) ≤ 512 := by omega
 have i2 : (0 : Int) ≤ (Lb' : Int) := by omega
 have i3 : (Lb' : Int) ≤ 256 := by omega
 obtain ⟨low, hl⟩ : ∃ low, low = La + 1 - Lb' := ⟨_, rfl⟩
 rw [← hl] at hlow
 have hlow9 : low ≤ 512 := by
  obtain ⟨g, _⟩ := hLb'.2.2 hb0
  omega
 have hmax : max (0 : Int) ((La : Int) - (Lb' : Int) + 1) = (low : Int) := by omega
 clear hLb hLb9 hLa hLa9 hLb' hLb9' hl LD lb2
 ·skip
  have low0 : (0 : Int) ≤ (low : Int) := by omega
  have low1 : (low : Int) ≤ 512 := by omega
  have hw : wmod (N / 2 ^ low) = N / 2 ^ low := wmod_of (by unfold W256 at *; omega)
  have AA := above8_any w.heap.size N low hN (by omega) W0 LA
  rw [hw] at AA
  unfold wv at AA
  gi_wp2_with fail
  refine (callsIn_free free_wide AA).mono ?_
  rintro e W1 ⟨rfl, q⟩
  have LA := LA.later q
  have AB := AB.later' q
  have LQ := LQ.later q
  have AR := AR.later' q
  have B0 := B0.trans (q.mono B0.size)
  have hsz1 := q.size
  clear q AA
  have d0 := AR.cell (j := 0) (by omega)
  have d1 := AR.cell (j := 1) (by omega)
  have d2 := AR.cell (j := 2) (by omega)
  have d3 := AR.cell (j := 3) (by omega)
  have f0 := AR.frozen 0
  have f1 := AR.frozen 1
  have f2 := AR.frozen 2
  have f3 := AR.frozen 3
  gi_wp2_with fail
  clear d0 d1 d2 d3 f0 f1 f2 f3
  have LA := (((LA.other (p := ⟨w.heap.size + 1 + 1 + 1, 0, none⟩) (by first | (simp; done) | (simp; omega) | omega) (.int .u64 (lim (N / 2 ^ low) 0))).other (p := ⟨w.heap.size + 1 + 1 + 1, 1, none⟩) (by first | (simp; done) | (simp; omega) | omega) (.int .u64 (lim (N / 2 ^ low) 1))).other (p := ⟨w.heap.size + 1 + 1 + 1, 2, none⟩) (by first | (simp; done) | (simp; omega) | omega) (.int .u64 (lim (N / 2 ^ low) 2))).other (p := ⟨w.heap.size + 1 + 1 + 1, 3, none⟩) (by first | (simp; done) | (simp; omega) | omega) (.int .u64 (lim (N / 2 ^ low) 3))
  have LQ := (((LQ.other (p := ⟨w.heap.size + 1 + 1 + 1, 0, none⟩) (by first | (simp; done) | (simp; omega) | omega) (.int .u64 (lim (N / 2 ^ low) 0))).other (p := ⟨w.heap.size + 1 + 1 + 1, 1, none⟩) (by first | (simp; done) | (simp; omega) | omega) (.int .u64 (lim (N / 2 ^ low) 1))).other (p := ⟨w.heap.size + 1 + 1 + 1, 2, none⟩) (by first | (simp; done) | (simp; omega) | omega) (.int .u64 (lim (N / 2 ^ low) 2))).other (p := ⟨w.heap.size + 1 + 1 + 1, 3, none⟩) (by first | (simp; done) | (simp; omega) | omega) (.int .u64 (lim (N / 2 ^ low) 3))
  have AB := (((AB.other (p := ⟨w.heap.size + 1 + 1 + 1, 0, none⟩) (by first | (simp; done) | (simp; omega) | omega) (.int .u64 (lim (N / 2 ^ low) 0))).other (p := ⟨w.heap.size + 1 + 1 + 1, 1, none⟩) (by first | (simp; done) | (simp; omega) | omega) (.int .u64 (lim (N / 2 ^ low) 1))).other (p := ⟨w.heap.size + 1 + 1 + 1, 2, none⟩) (by first | (simp; done) | (simp; omega) | omega) (.int .u64 (lim (N / 2 ^ low) 2))).other (p := ⟨w.heap.size + 1 + 1 + 1, 3, none⟩) (by first | (simp; done) | (simp; omega) | omega) (.int .u64 (lim (N / 2 ^ low) 3))
  have AR := AR.store (lim (N / 2 ^ low))
  have B0 := (((B0.setCell (p := ⟨w.heap.size + 1 + 1 + 1, 0, none⟩) (by simp; omega) (.int .u64 (lim (N / 2 ^ low) 0))).setCell (p := ⟨w.heap.size + 1 + 1 + 1, 1, none⟩) (by simp; omega) (.int .u64 (lim (N / 2 ^ low) 1))).setCell (p := ⟨w.heap.size + 1 + 1 + 1, 2, none⟩) (by simp; omega) (.int .u64 (lim (N / 2 ^ low) 2))).setCell (p := ⟨w.heap.size + 1 + 1 + 1, 3, none⟩) (by simp; omega) (.int .u64 (lim (N / 2 ^ low) 3))
  have hsz2 : w.heap.size + 5 ≤ ((((W1.setCell ⟨w.heap.size + 1 + 1 + 1, 0, none⟩ (.int .u64 (lim (N / 2 ^ low) 0))).setCell ⟨w.heap.size + 1 + 1 + 1, 1, none⟩ (.int .u64 (lim (N / 2 ^ low) 1))).setCell ⟨w.heap.size + 1 + 1 + 1, 2, none⟩ (.int .u64 (lim (N / 2 ^ low) 2))).setCell ⟨w.heap.size + 1 + 1 + 1, 3, none⟩ (.int .u64 (lim (N / 2 ^ low) 3))).heap.size := by simp [World.setCell]; omega
  obtain ⟨W2, hW2⟩ : ∃ W2, (((W1.setCell ⟨w.heap.size + 1 + 1 + 1, 0, none⟩ (.int .u64 (lim (N / 2 ^ low) 0))).setCell ⟨w.heap.size + 1 + 1 + 1, 1, none⟩ (.int .u64 (lim (N / 2 ^ low) 1))).setCell ⟨w.heap.size + 1 + 1 + 1, 2, none⟩ (.int .u64 (lim (N / 2 ^ low) 2))).setCell ⟨w.heap.size + 1 + 1 + 1, 3, none⟩ (.int .u64 (lim (N / 2 ^ low) 3)) = W2 := ⟨_, rfl⟩
  rw [hW2] at LA LQ AB AR B0 hsz2 ⊢
  clear hW2 hsz1
  refine (callsIn_free free_wide (bits8_any w.heap.size (low : Int) W2)).mono ?_
  rintro e w' ⟨rfl, rfl⟩
  gi_wp2
  have LA := (LA.alloc (.cells #[.pointer (some ⟨w.heap.size, 0, none⟩)] 172)).alloc (.cells #[.int .i64 (low : Int)] 3)
  have LQ := (LQ.alloc (.cells #[.pointer (some ⟨w.heap.size, 0, none⟩)] 172)).alloc (.cells #[.int .i64 (low : Int)] 3)
  have AB := (AB.alloc (.cells #[.pointer (some ⟨w.heap.size, 0, none⟩)] 172)).alloc (.cells #[.int .i64 (low : Int)] 3)
  have AR := (AR.alloc (.cells #[.pointer (some ⟨w.heap.size, 0, none⟩)] 172)).alloc (.cells #[.int .i64 (low : Int)] 3)
  have B0 := (B0.alloc (by omega) (.cells #[.pointer (some ⟨w.heap.size, 0, none⟩)] 172)).alloc (by simp; omega) (.cells #[.int .i64 (low : Int)] 3)
  have bX := (Boxed.new W2 172 (.pointer (some ⟨w.heap.size, 0, none⟩))).alloc (.cells #[.int .i64 (low : Int)] 3)
  have bI := Boxed.new (W2.alloc (.cells #[.pointer (some ⟨w.heap.size, 0, none⟩)] 172)) 3 (.int .i64 (low : Int))
  have hsz3 : ((W2.alloc (.cells #[.pointer (some ⟨w.heap.size, 0, none⟩)] 172)).alloc (.cells #[.int .i64 (low : Int)] 3)).heap.size = W2.heap.size + 2 := by simp
  rw [World.size_alloc] at bI
  obtain ⟨W3, hW3⟩ : ∃ W3, (W2.alloc (.cells #[.pointer (some ⟨w.heap.size, 0, none⟩)] 172)).alloc (.cells #[.int .i64 (low : Int)] 3) = W3 := ⟨_, rfl⟩
  rw [hW3] at LA LQ AB AR B0 bX bI hsz3 ⊢
  clear hW3
  generalize W2.heap.size = bs at *
  have q0 : qAt N b low = 0 := by unfold qAt; rw [Nat.div_eq_of_lt hlow, Nat.zero_mul]
  have r0 : N / 2 ^ low % b = N / 2 ^ low := Nat.mod_eq_of_lt hlow
  have hbpos : 0 < b := by omega
  have hI0 : DvSt8 w (bs + 2) N b low 0 W3 := by
   refine ⟨⟨LQ.same (by rw [Nat.sub_zero, q0]), ?_, AB⟩, B0, by omega⟩
   rw [Nat.sub_zero, r0]
   exact AR
  refine wpIn_rangeFunc_N1 rfl h1 (gf := 183) (lb := #[.pointer (some ⟨bs + 1, 0, none⟩), .pointer (some ⟨bs, 0, none⟩)]) rfl trivial (enters_of Tryz.func183 (by kernel_rfl) rfl)
   (bits8_seq _ (by omega) (bs + 1) bs w.heap.size low N (by omega) W3 (by omega) (by omega) (by omega) bI.cell bX.cell (fun j hj => LA.cell hj)) KeepsAt.trans (KeepsAt.refl _) (KeepsAt.b (by simp; omega)) (fun _ _ => rfl)
   (fun i W => DvSt8 w (bs + 2) N b low i W)
   (fun _ _ _ => False)
   (DvSt8.own w (bs + 2) N b low _ (by omega))
   (fun _ _ _ _ _ hs _ _ => hs)
   hI0
   (fun i => { tmps := #[.agg #[.int .u64 (a 0), .int .u64 (a 1), .int .u64 (a 2), .int .u64 (a 3), .int .u64 (a 4), .int .u64 (a 5), .int .u64 (a 6), .int .u64 (a 7)], .agg #[.int .u64 (lim b 0), .int .u64 (lim b 1), .int .u64 (lim b 2), .int .u64 (lim b 3)], .pointer (some ⟨w.heap.size, 0, none⟩), .pointer (some ⟨w.heap.size + 1, 0, none⟩), .pointer (some ⟨w.heap.size + 1 + 1, 0, none⟩), .pointer (some ⟨w.heap.size + 1 + 1 + 1, 0, none⟩), .pointer (some ⟨w.heap.size + 1 + 1 + 1 + 1, 0, none⟩), .int .i64 (low : Int), .int .i64 ((low - 1 - i : Nat) : Int), .int .u64 ((N / 2 ^ (low - 1 - i) % 2 : Nat) : Int), .agg #[.int .u64 (lim b 0), .int .u64 (lim b 1), .int .u64 (lim b 2), .int .u64 (lim b 3)], .agg #[.int .u64 (lim b 0), .int .u64 (lim b 1), .int .u64 (lim b 2), .int .u64 (lim b 3)], .int .i64 (Lb : Int), .bool false, undef, undef, .int .i64 (La : Int), .int .i64 (Lb' : Int), .int .i64 ((La : Int) - (Lb' : Int)), .int .i64 ((La : Int) - (Lb' : Int) + 1), .int .i64 (low : Int), .int .i64 (low : Int), .agg #[.int .u64 (lim (N / 2 ^ low) 0), .int .u64 (lim (N / 2 ^ low) 1), .int .u64 (lim (N / 2 ^ low) 2), .int .u64 (lim (N / 2 ^ low) 3)], .int .i64 (low : Int), .func (.func 183) #[] #[.pointer (some ⟨bs + 1, 0, none⟩), .pointer (some ⟨bs, 0, none⟩)], .int .i64 ((low - 1 - i : Nat) : Int), .int .u64 ((N / 2 ^ (low - 1 - i) % 2 : Nat) : Int), undef, undef, undef, undef, undef, undef, undef, undef, undef, undef, undef, undef, undef, undef, undef], defers := [] }) ?assign ?body ?done ?stop
  case assign =>
   intro l i W K _ hK
   gi_wp2
   exact hK
  case body =>
   rintro l i W _ hi ⟨⟨lq, ar, ab⟩, hB, hs⟩
   obtain ⟨p, hp⟩ : ∃ p, p = low - 1 - i := ⟨_, rfl⟩
   have hp1 : low - i = p + 1 := by omega
   have hp2 : low - (i + 1) = p := by omega
   rw [hp1] at lq ar
   rw [← hp]
   have hbit : N / 2 ^ p % 2 ≤ 1 := by omega
   have BD := bringDown_any (N / 2 ^ (p + 1) % b) b (N / 2 ^ p % 2) (w.heap.size + 1 + 1 + 1) (w.heap.size + 1) (Nat.mod_lt _ hbpos) hb hbit (by omega) W ar ab
   obtain ⟨hmod, hq1, hq2⟩ := bd_mod N b hbpos p
   obtain ⟨hs1, hs2⟩ := qAt_step N b p hbpos
   rw [hmod] at BD
   have HPW : p < 512 := by omega
   have HI := Lib.hid hi
   have HB := Lib.hid hB
   have HS := Lib.hid hs
   have HLQ := Lib.hid lq
   have HAR := Lib.hid ar
   have HAB := Lib.hid ab
   have HP2 := Lib.hid hp2
   have bt0 : (0 : Int) ≤ ((N / 2 ^ p % 2 : Nat) : Int) := by omega
   have bt1 : ((N / 2 ^ p % 2 : Nat) : Int) ≤ 1 := by omega
   have pI0 : (0 : Int) ≤ (p : Int) := by omega
   have pI1 : (p : Int) < 512 := by omega
   by_cases hle : b ≤ 2 * (N / 2 ^ (p + 1) % b) + N / 2 ^ p % 2
   ·rw [decide_eq_true hle] at BD
    have hqv := hs1 hle
    obtain ⟨qq, r, hqr, hr⟩ : ∃ qq r, p = 64 * qq + r ∧ r < 64 := ⟨p / 64, p % 64, by omega, by omega⟩
    have HADD : Hid (∀ j, limN (qAt N b p) j = if j = qq then Nat.lor (limN (qAt N b (p + 1)) qq) (2 ^ r) else limN (qAt N b (p + 1)) j) := fun j => by
     rw [hqv]
     unfold qAt
     rw [hqr]
     exact limN_addbit _ qq r j hr
    have hq4 : qq < 8 := by omega
    have t1 : ((p : Int)).tdiv 64 = (qq : Int) := by rw [Int.tdiv_eq_ediv_of_nonneg (by omega)]; omega
    have t2 : ((p : Int)).tmod 64 = (r : Int) := by rw [Int.tmod_eq_emod_of_nonneg (by omega)]; omega
    have qI0 : (0 : Int) ≤ (qq : Int) := by omega
    have qI1 : (qq : Int) < 8 := by omega
    have rI0 : (0 : Int) ≤ (r : Int) := by omega
    have rI1 : (r : Int) < 64 := by omega
    have hu := limN_lt (qAt N b (p + 1)) qq
    have hpw : 2 ^ r < 18446744073709551616 := by
     have h2 : 2 ^ r ≤ 2 ^ 63 := Nat.pow_le_pow_right (by decide) (by omega)
     exact Nat.lt_of_le_of_lt h2 (by decide)
    have hw2 : IntKind.u64.wrap ((2 : Int) ^ r) = ((2 ^ r : Nat) : Int) := by
     have e1 : (2 : Int) ^ r = ((2 ^ r : Nat) : Int) := by rw [Int.natCast_pow]; rfl
     rw [e1]
     exact wrap_nat _ hpw
    have hor : bits .or .u64 (limN (qAt N b (p + 1)) qq : Int) ((2 ^ r : Nat) : Int) = ((Nat.lor (limN (qAt N b (p + 1)) qq) (2 ^ r) : Nat) : Int) := u64_or_nat _ _ hu hpw
    have u0 : (0 : Int) ≤ (limN (qAt N b (p + 1)) qq : Int) := by omega
    have u1 : (limN (qAt N b (p + 1)) qq : Int) < 18446744073709551616 := by omega
    have HQ4 := Lib.hid hq4
    have HUU : Hid (limN (qAt N b (p + 1)) qq = limN (qAt N b (p + 1)) qq) := rfl
    have hmx : Tryz.prog.follows .mixedOrders = true := by kernel_rfl
    generalize hun : limN (qAt N b (p + 1)) qq = un at *
    have HUN := Lib.hid hun
    generalize hon : Nat.lor un (2 ^ r) = on at *
    generalize hpn : ((2 ^ r : Nat) : Int) = pw at *
    clear hmod hq1 hq2 hs1 hs2 hle hqv hqr hr hq4 hu hpw hi hB hs lq ar ab hp hp1 hp2 hun hon hpn HUU
    gi_wp2_with fail
    refine (callsIn_free (free_round l) BD).mono ?_
    rintro e W4 ⟨rfl, aR4, hG⟩
    have lq4 := HLQ.out.kept hG (by simp)
    have ab4 := HAB.out.kept hG (by simp)
    have hsz4 := hG.size
    have cq := lq4.cell HQ4.out
    simp only [HUN.out] at cq
    have fq := lq4.frozen qq
    have HL4 := Lib.hid lq4
    have HR4 := Lib.hid aR4
    have HB4 := Lib.hid ab4
    have HG := Lib.hid hG
    have e1 : ∀ x : Ext W4, x.w.cell? ⟨w.heap.size + 1 + 1, qq, none⟩ = some (.int .u64 (un : Int)) := fun x => (x.cell (p := ⟨_, qq, none⟩) HL4.out.lt).trans cq
    have g1 : ∀ x : Ext W4, x.w.frozen? ⟨w.heap.size + 1 + 1, qq, none⟩ = false := fun x => (x.frozen (p := ⟨_, qq, none⟩) HL4.out.lt).trans fq
    clear lq4 ab4 aR4 hG cq fq BD
    gi_wp2
    refine wpIn_region_mix (C := Grows W4) (free_round l) [some true, some true, some true, some true, some true, some true, some true, some true, some true, some true, some true, none] hmx (by kernel_rfl) (by kernel_rfl) (grows_refl W4) ?_
    simp only [headOf, tailOf]
    repeat (go_big_quiet_step (fail))
    refine wpQuiet_nil ?_
    rintro _ ⟨x, rfl⟩
    have N1 := Lib.hid ((HL4.out.later x.below).set HQ4.out (on : Int))
    have N2 := Lib.hid ((HR4.out.later' x.below).other (p := ⟨w.heap.size + 1 + 1, qq, none⟩) (by simp) (.int .u64 (on : Int)))
    have N3 := Lib.hid ((HB4.out.later' x.below).other (p := ⟨w.heap.size + 1 + 1, qq, none⟩) (by simp) (.int .u64 (on : Int)))
    have N4 := Lib.hid (((below_grown HB.out HG.out (by omega) HB.out.size).trans (x.below.mono (by have := HB.out.size; omega))).setCell (p := ⟨w.heap.size + 1 + 1, qq, none⟩) (by simp; omega) (.int .u64 (on : Int)))
    have hxs := x.below.size
    go_wp2
    rw [calmPost_normal]
    refine ⟨((keepsFrom_grown HG.out ⟨_, _, HAR.out⟩).trans (x.keeps _)).trans ((KeepsOthers.setCell _ _ _).from _), ?_, ⟨?_, ?_, N3.out⟩, N4.out, ?_⟩
    ·refine (((KeepsAt.refl _ _).grown HG.out (fun y hy => ?_)).below x.below (fun y hy => ?_)).setCell ?_ _
     ·have := HS.out; simp at hy; omega
     ·have := HS.out; simp at hy; omega
     ·simp; omega
    ·rw [HP2.out]
     refine N1.out.same ?_
     funext j
     show (if j = qq then (on : Int) else _) = _
     rw [HADD.out j]
     by_cases hj : j = qq
     ·rw [if_pos hj, if_pos hj]
     ·rw [if_neg hj, if_neg hj]
    ·rw [HP2.out]; exact N2.out
    ·have := HS.out; simp [World.setCell]; omega
   ·rw [decide_eq_false hle] at BD
    have hqv := hs2 hle
    have HQV := Lib.hid hqv
    clear hmod hq1 hq2 hs1 hs2 hle hqv hi hB hs lq ar ab hp hp1 hp2
    gi_wp2_with fail
    refine (callsIn_free (free_round l) BD).mono ?_
    rintro e W4 ⟨rfl, aR4, hG⟩
    have N1 := HLQ.out.kept hG (by simp)
    have N3 := HAB.out.kept hG (by simp)
    have hsz4 := hG.size
    gi_wp2
    refine ⟨keepsFrom_grown hG ⟨_, _, HAR.out⟩, (KeepsAt.refl _ _).grown hG (fun y hy => ?_), ⟨?_, ?_, N3⟩, below_grown HB.out hG (by omega) HB.out.size, by have := HS.out; omega⟩
    ·have := HS.out; simp at hy; omega
    ·rw [HP2.out, HQV.out]; exact N1
    ·rw [HP2.out]; exact aR4
  case done =>
   rintro D W hD ⟨⟨lq, ar, ab⟩, hB, hs⟩ hK
   rw [Nat.sub_self] at lq ar
   have eQ : qAt N b 0 = N / b := by unfold qAt; rw [Nat.pow_zero, Nat.div_one, Nat.mul_one]
   rw [Nat.pow_zero, Nat.div_one] at ar
   have lq := lq.same (m' := fun j => (limN (N / b) j : Int)) (by rw [eQ])
   have HLQ := Lib.hid lq
   have HAR := Lib.hid ar
   have HB := Lib.hid hB
   have hmx : Tryz.prog.follows .mixedOrders = true := by kernel_rfl
   have c0 := lq.cell (j := 0) (by omega)
   have c1 := lq.cell (j := 1) (by omega)
   have c2 := lq.cell (j := 2) (by omega)
   have c3 := lq.cell (j := 3) (by omega)
   have c4 := lq.cell (j := 4) (by omega)
   have c5 := lq.cell (j := 5) (by omega)
   have c6 := lq.cell (j := 6) (by omega)
   have c7 := lq.cell (j := 7) (by omega)
   have f0 := lq.frozen 0
   have f1 := lq.frozen 1
   have f2 := lq.frozen 2
   have f3 := lq.frozen 3
   have f4 := lq.frozen 4
   have f5 := lq.frozen 5
   have f6 := lq.frozen 6
   have f7 := lq.frozen 7
   have d0 := ar.cell (j := 0) (by omega)
   have d1 := ar.cell (j := 1) (by omega)
   have d2 := ar.cell (j := 2) (by omega)
   have d3 := ar.cell (j := 3) (by omega)
   have g0 := ar.frozen 0
   have g1 := ar.frozen 1
   have g2 := ar.frozen 2
   have g3 := ar.frozen 3
   have HS := Lib.hid hs
   have hDl : w.heap.size + 5 ≤ D := by have := HS.out; omega
   have sc0 := setCell_same c0
   have sc1 := setCell_same c1
   have sc2 := setCell_same c2
   have sc3 := setCell_same c3
   have sc4 := setCell_same c4
   have sc5 := setCell_same c5
   have sc6 := setCell_same c6
   have sc7 := setCell_same c7
   have sd0 := setCell_same d0
   have sd1 := setCell_same d1
   have sd2 := setCell_same d2
   have sd3 := setCell_same d3
   clear lq ar ab hB hs
   gi_wp2
   gi_region_o
   all_goals (try simp only [sc0, sc1, sc2, sc3, sc4, sc5, sc6, sc7, sd0, sd1, sd2, sd3])
   all_goals gi_wp2
   all_goals (try simp only [sc0, sc1, sc2, sc3, sc4, sc5, sc6, sc7, sd0, sd1, sd2, sd3])
   all_goals
    have hK' : W.drew.heap[D]? = some (.deferred (some [])) := hK
    have l9 := (show Limbs W.drew (w.heap.size + 1 + 1) 143 8 (fun j => (limN (N / b) j : Int)) from HLQ.out).kept (grownBy_putObj' W.drew D (.deferred none)) (fun e => by injection e with e; omega)
    have a9 := (show Arr4 W.drew (w.heap.size + 1 + 1 + 1) 24 (lim (N % b)) from HAR.out).kept (grownBy_putObj' W.drew D (.deferred none)) (fun e => by injection e with e; omega)
    clear c0 f0 sc0 c1 f1 sc1 c2 f2 sc2 c3 f3 sc3 c4 f4 sc4 c5 f5 sc5 c6 f6 sc6 c7 f7 sc7 d0 g0 sd0 d1 g1 sd1 d2 g2 sd2 d3 g3 sd3
    refine ⟨by simp, .inl ⟨_, _, rfl, run_takeDeferred hK', ?_⟩⟩
    have e0 := l9.cell (j := 0) (by omega)
    have e1 := l9.cell (j := 1) (by omega)
    have e2 := l9.cell (j := 2) (by omega)
    have e3 := l9.cell (j := 3) (by omega)
    have e4 := l9.cell (j := 4) (by omega)
    have e5 := l9.cell (j := 5) (by omega)
    have e6 := l9.cell (j := 6) (by omega)
    have e7 := l9.cell (j := 7) (by omega)
    have v0 := a9.cell (j := 0) (by omega)
    have v1 := a9.cell (j := 1) (by omega)
    have v2 := a9.cell (j := 2) (by omega)
    have v3 := a9.cell (j := 3) (by omega)
    exact ⟨_, by simp [results, Tryz.f156, go_sem, e0, e1, e2, e3, e4, e5, e6, e7, v0, v1, v2, v3]; rfl, rfl, HB.out.drew.trans (belowK_b (w := w) (Nat.le_refl _) _ D _ _ (by omega) hK' rfl rfl)⟩
  case stop =>
   rintro D c i W _ _ h _
   exact h.elim
end Go.Proofs.YtnkhmgmganejmaaGreatDoor
