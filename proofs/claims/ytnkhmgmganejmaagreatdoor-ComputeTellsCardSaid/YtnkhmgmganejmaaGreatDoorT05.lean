/- Part. -/
import Derived.Deep.OwnRows
import Derived.Laws.BytesArg
import Derived.Test.YtnkhmgmganejmaaGreatDoorT04
import Derived.Maps.Own
import Derived.Test.YtnkhmgmganejmaaGreatDoorProg
import Derived.Maps.OwnSet
import Derived.Maps.Range
import Derived.Maps.RangeWalk
import Derived.Test.YtnkhmgmganejmaaGreatDoorT01
import Derived.Laws.Bits64b
import Derived.Laws.BitsAll
import Derived.Test.YtnkhmgmganejmaaGreatDoorT03
set_option maxRecDepth 100000
set_option maxHeartbeats 16000000
namespace Go.Proofs.YtnkhmgmganejmaaGreatDoor
section
open Go Go.RowKit Go.Shelf
attribute [local go_sem] Oper.semAt_some Grows wide_fn
def byteN (a t : Nat) : Nat := a / 256 ^ t % 256
theorem byteN_lt (a t : Nat) : byteN a t < 256 := Nat.mod_lt _ (by decide)
theorem byteN_lim (a k i : Nat) (hk : k < 4) (hi : i < 8) : (lim a k / 256 ^ i) % 256 = (byteN a (8 * k + i) : Int) := by
 unfold byteN
 have h : ∀ x : Nat, ((x % 18446744073709551616 : Nat) : Int) / 256 ^ i % 256 = ((x / 256 ^ i % 256 : Nat) : Int) := by
  intro x
  have : i = 0 ∨ i = 1 ∨ i = 2 ∨ i = 3 ∨ i = 4 ∨ i = 5 ∨ i = 6 ∨ i = 7 := by omega
  rcases this with rfl | rfl | rfl | rfl | rfl | rfl | rfl | rfl <;> simp only [Nat.reducePow, Int.reducePow] <;> omega
 match k, hk with
 | 0, _ =>
  show ((a % 18446744073709551616 : Nat) : Int) / 256 ^ i % 256 = _
  rw [h a, Nat.mul_zero, Nat.zero_add]
 | 1, _ =>
  show ((a / 18446744073709551616 % 18446744073709551616 : Nat) : Int) / 256 ^ i % 256 = _
  rw [h, show (18446744073709551616 : Nat) = 256 ^ (8 * 1) by decide, Nat.div_div_eq_div_mul, ← Nat.pow_add]
 | 2, _ =>
  show ((a / 340282366920938463463374607431768211456 % 18446744073709551616 : Nat) : Int) / 256 ^ i % 256 = _
  rw [h, show (340282366920938463463374607431768211456 : Nat) = 256 ^ (8 * 2) by decide, Nat.div_div_eq_div_mul, ← Nat.pow_add]
 | 3, _ =>
  show ((a / 6277101735386680763835789423207666416102355444464034512896 % 18446744073709551616 : Nat) : Int) / 256 ^ i % 256 = _
  rw [h, show (6277101735386680763835789423207666416102355444464034512896 : Nat) = 256 ^ (8 * 3) by decide, Nat.div_div_eq_div_mul, ← Nat.pow_add]
def outAt (a m j : Nat) : Value := if 32 - m ≤ j then .int .u8 (byteN a (31 - j) : Int) else .int .u8 0
theorem outAt_succ (a m : Nat) (hm : m < 32) : (fun j => if j = 31 - m then Value.int .u8 (byteN a m : Int) else outAt a m j) = fun j => if j < 32 then outAt a (m + 1) j else outAt a m j := by
 funext j
 unfold outAt
 by_cases h : j = 31 - m
 ·subst h
  rw [if_pos rfl, if_pos (by omega), if_pos (by omega), show 31 - (31 - m) = m by omega]
 ·rw [if_neg h]
  by_cases h2 : j < 32
  ·rw [if_pos h2]
   by_cases h3 : 32 - m ≤ j
   ·rw [if_pos h3, if_pos (by omega)]
   ·rw [if_neg h3, if_neg (by omega)]
  ·rw [if_neg h2]
def bytesOf (a : Nat) : ByteArray := strOfNums ((List.range 32).map fun j => (byteN a (31 - j) : Int))
def BytSt (w : World) (a m : Nat) (W : World) : Prop :=
 (W.rowIs (w.heap.size + 1) 159 32 (outAt a m) ∧ Boxed W (w.heap.size + 1 + 1) 3 (.int .i64 ((32 - m : Nat) : Int)) ∧ Arr4 W w.heap.size 24 (lim a) ∧ Boxed W (w.heap.size + 1 + 1 + 1) 125 (.pointer (some ⟨w.heap.size, 0, none⟩))) ∧ Below w.heap.size w W
theorem rowIs_own {β : Type} (B : Nat) (t : TypeId) (n : Nat) (f : β → Nat → Value) : Own (fun s W => World.rowIs W B t n (f s)) := fun s X Y row hs hg hrow =>
 hs.of_block (hg.block B hs.lt (fun e' => by
  obtain ⟨o, ho, hc⟩ := hrow B e'.symm
  obtain ⟨cs, h1, _⟩ := hs
  rw [h1] at ho
  cases ho
  cases hc))
theorem BytSt.own (w : World) (a B : Nat) (hB : w.heap.size ≤ B) : OwnFrom B (fun m W => BytSt w a m W) :=
 OwnFrom.and (Own.from (fun s X Y row hs hg hr => ⟨rowIs_own _ _ _ (fun m : Nat => outAt a m) s X Y row hs.1 hg hr, boxed_own _ _ (fun m : Nat => Value.int .i64 ((32 - m : Nat) : Int)) s X Y row hs.2.1 hg hr,
  Arr4.own _ _ (fun _ : Nat => _) s X Y row hs.2.2.1 hg hr, boxed_own _ _ (fun _ : Nat => _) s X Y row hs.2.2.2 hg hr⟩) _) (ownFrom_below (Nat.le_refl _) hB)
def partAt (a k : Nat) : Nat → Int
 | 0 => lim a k
 | i + 1 => partAt a k i / 256
theorem partAt_eq (a k : Nat) : ∀ i, partAt a k i = lim a k / 256 ^ i
 | 0 => by simp [partAt]
 | i + 1 => by
  show partAt a k i / 256 = _
  rw [partAt_eq a k i]
  obtain ⟨x, hx⟩ := Int.eq_ofNat_of_zero_le (lim_u64 a k).1
  rw [hx, Int.pow_succ]
  have h : ((x / 256 ^ i / 256 : Nat) : Int) = ((x / (256 ^ i * 256) : Nat) : Int) := by rw [Nat.div_div_eq_div_mul]
  simpa using h
theorem partAt_u64 (a k i : Nat) : U64 (partAt a k i) := by
 rw [partAt_eq]
 have h := lim_u64 a k
 unfold U64 at *
 exact ⟨Int.ediv_nonneg h.1 (Int.pow_nonneg (by decide)), Int.lt_of_le_of_lt (Int.ediv_le_self _ h.1) h.2⟩
theorem partAt_byte (a k i : Nat) (hk : k < 4) (hi : i < 8) : IntKind.u8.wrap (partAt a k i) = (byteN a (8 * k + i) : Int) := by
 have h := byteN_lim a k i hk hi
 rw [← partAt_eq] at h
 rw [← h]
 rfl
theorem bytes_ret (a : Nat) (_ha : W256 a) : Ret Tryz.prog 153 #[wv a] (.string (bytesOf a)) := by
 intro w
 unfold wv
 have h1 : 1 ≤ 4 := by omega
 refine (callsIn_wide (n := 4)).1 ?_
 refine callsIn_of_wp_marks Tryz.func153 rfl trivial ?_ rfl
 simp only [Tryz.ntmps153, List.size_toArray, List.length_cons, List.length_nil, Nat.reduceAdd, Nat.reduceSub, Array.replicate_succ, Array.replicate_zero, List.push_toArray, List.append_toArray, List.nil_append, List.cons_append]
 gi_wp2_with (gi_at_call 137; refine (callsIn_free free_wide (parts_any _ _)).mono ?_; rintro e w' ⟨rfl, rfl⟩)
 obtain ⟨W0, hW0⟩ : ∃ W0, ((((w.alloc (.cells #[.int .u64 (lim a 0), .int .u64 (lim a 1), .int .u64 (lim a 2), .int .u64 (lim a 3)] 24)).alloc (.cells #[.int .u8 0, .int .u8 0, .int .u8 0, .int .u8 0, .int .u8 0, .int .u8 0, .int .u8 0, .int .u8 0, .int .u8 0, .int .u8 0, .int .u8 0, .int .u8 0, .int .u8 0, .int .u8 0, .int .u8 0, .int .u8 0, .int .u8 0, .int .u8 0, .int .u8 0, .int .u8 0, .int .u8 0, .int .u8 0, .int .u8 0, .int .u8 0, .int .u8 0, .int .u8 0, .int .u8 0, .int .u8 0, .int .u8 0, .int .u8 0, .int .u8 0, .int .u8 0] 159)).alloc (.cells #[.int .i64 32] 3)).alloc (.cells #[.pointer (some ⟨w.heap.size, 0, none⟩)] 125)) = W0 := ⟨_, rfl⟩
 have hsz : W0.heap.size = w.heap.size + 4 := by rw [← hW0]; simp
 have hJ0 : BytSt w a 0 W0 := by
  rw [← hW0]
  refine ⟨⟨?_, ?_, ?_, ?_⟩, ((((Below.refl _ w).alloc (Nat.le_refl _) _).alloc (by simp) _).alloc (by simp; omega) _).alloc (by simp; omega) _⟩
  ·have h := World.rowIs_alloc (w.alloc (.cells #[.int .u64 (lim a 0), .int .u64 (lim a 1), .int .u64 (lim a 2), .int .u64 (lim a 3)] 24)) #[.int .u8 0, .int .u8 0, .int .u8 0, .int .u8 0, .int .u8 0, .int .u8 0, .int .u8 0, .int .u8 0, .int .u8 0, .int .u8 0, .int .u8 0, .int .u8 0, .int .u8 0, .int .u8 0, .int .u8 0, .int .u8 0, .int .u8 0, .int .u8 0, .int .u8 0, .int .u8 0, .int .u8 0, .int .u8 0, .int .u8 0, .int .u8 0, .int .u8 0, .int .u8 0, .int .u8 0, .int .u8 0, .int .u8 0, .int .u8 0, .int .u8 0, .int .u8 0] 159 (outAt a 0) (fun i hi => by
    match i, hi with
    | 0, _ => rfl
    | 1, _ => rfl
    | 2, _ => rfl
    | 3, _ => rfl
    | 4, _ => rfl
    | 5, _ => rfl
    | 6, _ => rfl
    | 7, _ => rfl
    | 8, _ => rfl
    | 9, _ => rfl
    | 10, _ => rfl
    | 11, _ => rfl
    | 12, _ => rfl
    | 13, _ => rfl
    | 14, _ => rfl
    | 15, _ => rfl
    | 16, _ => rfl
    | 17, _ => rfl
    | 18, _ => rfl
    | 19, _ => rfl
    | 20, _ => rfl
    | 21, _ => rfl
    | 22, _ => rfl
    | 23, _ => rfl
    | 24, _ => rfl
    | 25, _ => rfl
    | 26, _ => rfl
    | 27, _ => rfl
    | 28, _ => rfl
    | 29, _ => rfl
    | 30, _ => rfl
    | 31, _ => rfl
    | n + 32, h => exact absurd h (by show ¬ (n + 32 < 32); omega))
   rw [World.size_alloc] at h
   exact (h.alloc _).alloc _
  ·have h := Boxed.new ((w.alloc (.cells #[.int .u64 (lim a 0), .int .u64 (lim a 1), .int .u64 (lim a 2), .int .u64 (lim a 3)] 24)).alloc (.cells #[.int .u8 0, .int .u8 0, .int .u8 0, .int .u8 0, .int .u8 0, .int .u8 0, .int .u8 0, .int .u8 0, .int .u8 0, .int .u8 0, .int .u8 0, .int .u8 0, .int .u8 0, .int .u8 0, .int .u8 0, .int .u8 0, .int .u8 0, .int .u8 0, .int .u8 0, .int .u8 0, .int .u8 0, .int .u8 0, .int .u8 0, .int .u8 0, .int .u8 0, .int .u8 0, .int .u8 0, .int .u8 0, .int .u8 0, .int .u8 0, .int .u8 0, .int .u8 0] 159)) 3 (.int .i64 32)
   rw [World.size_alloc, World.size_alloc] at h
   exact h.alloc _
  ·exact (((Arr4.word w _ a).alloc _).alloc _).alloc _
  ·have h := Boxed.new (((w.alloc (.cells #[.int .u64 (lim a 0), .int .u64 (lim a 1), .int .u64 (lim a 2), .int .u64 (lim a 3)] 24)).alloc (.cells #[.int .u8 0, .int .u8 0, .int .u8 0, .int .u8 0, .int .u8 0, .int .u8 0, .int .u8 0, .int .u8 0, .int .u8 0, .int .u8 0, .int .u8 0, .int .u8 0, .int .u8 0, .int .u8 0, .int .u8 0, .int .u8 0, .int .u8 0, .int .u8 0, .int .u8 0, .int .u8 0, .int .u8 0, .int .u8 0, .int .u8 0, .int .u8 0, .int .u8 0, .int .u8 0, .int .u8 0, .int .u8 0, .int .u8 0, .int .u8 0, .int .u8 0, .int .u8 0] 159)).alloc (.cells #[.int .i64 32] 3)) 125 (.pointer (some ⟨w.heap.size, 0, none⟩))
   simpa using h
 rw [hW0]
 clear hW0
 refine wpIn_rangeFunc_N1 rfl h1 (gf := 160) (lb := #[.pointer (some ⟨w.heap.size + 1 + 1 + 1, 0, none⟩)]) rfl trivial (enters_of Tryz.func160 (by kernel_rfl) rfl)
  (parts_seq _ (by omega) _ _ (lim a) W0 (by omega) (by omega) hJ0.1.2.2.2.cell (fun j hj => hJ0.1.2.2.1.cell hj)) KeepsAt.trans (KeepsAt.refl _) (KeepsAt.b (by simp; omega)) (fun _ _ => rfl)
  (fun k W => BytSt w a (8 * k) W)
  (fun _ _ _ => False)
  (fun s => BytSt.own w a _ (by omega) (8 * s))
  (fun _ _ _ _ _ hs _ _ => hs)
  hJ0
  (fun k => { tmps := #[.agg #[.int .u64 (lim a 0), .int .u64 (lim a 1), .int .u64 (lim a 2), .int .u64 (lim a 3)], .pointer (some ⟨w.heap.size, 0, none⟩), .string { data := #[] }, .pointer (some ⟨w.heap.size + 1, 0, none⟩), .pointer (some ⟨w.heap.size + 1 + 1, 0, none⟩), undef, .int .u64 (lim a k), .func (.func 160) #[] #[.pointer (some ⟨w.heap.size + 1 + 1 + 1, 0, none⟩)], .int .i64 (k : Int), .int .u64 (lim a k), undef, undef, undef, undef, undef, undef, undef, undef, undef, undef, undef, undef, undef], defers := [] }) ?assign ?body ?done ?stop
 case assign =>
  intro l k W K _ hK
  gi_wp2
  exact hK
 case body =>
  rintro l k W _ hk4 hst
  gi_wp2
  gi_loopw [6, 10] (fun p i wr => ∃ m : Nat, m ≤ 8 ∧ i = .int .i64 m ∧ p = .int .u64 (partAt a k m) ∧ BytSt w a (8 * k + m) wr ∧ KeepsAt [w.heap.size, w.heap.size + 1 + 1 + 1] W wr ∧ KeepsFrom W0.heap.size W wr) (fun p i _ => 8 - (intOf i).toNat)
  case atStart => exact ⟨0, by omega, rfl, rfl, hst, KeepsAt.refl _ _, KeepsFrom.refl _ _⟩
  case round =>
   obtain ⟨m, hm, rfl, rfl, ⟨⟨b1, b2, b3, b4⟩, hB⟩, hKa, hKf⟩ := hrel
   have hl1 := b1.lt
   have hl4 := b4.lt
   by_cases hlt : m < 8
   ·have hu := partAt_u64 a k m
    obtain ⟨hu0, hu1⟩ := hu
    have hby := Lib.hid (partAt_byte a k m hk4 hlt)
    have hps : Hid (partAt a k (m + 1) = partAt a k m / 256) := rfl
    obtain ⟨q, hq⟩ : ∃ q : Nat, q + (8 * k + m) = 31 := ⟨31 - (8 * k + m), by omega⟩
    have c2 := b2.cell
    have f2 := b2.frozen
    rw [show ((32 - (8 * k + m) : Nat) : Int) = (q : Int) + 1 by omega] at c2
    have c1 : wr.cell? ⟨w.heap.size + 1, q, none⟩ = some (outAt a (8 * k + m) q) := b1.cell (by omega)
    have f1 := b1.frozen q
    have hq0 : (0 : Int) ≤ (q : Int) := by omega
    have hq1 : (q : Int) < 32 := by omega
    have hm8 : (m : Int) < 8 := by omega
    have hst' : BytSt w a (8 * k + (m + 1)) ((wr.setCell ⟨w.heap.size + 1 + 1, 0, none⟩ (.int .i64 (q : Int))).setCell ⟨w.heap.size + 1, q, none⟩ (.int .u8 (IntKind.u8.wrap (partAt a k m)))) := by
     refine ⟨⟨?_, ?_, ?_, ?_⟩, (hB.setCell (p := ⟨w.heap.size + 1 + 1, 0, none⟩) (by simp; omega) _).setCell (p := ⟨w.heap.size + 1, q, none⟩) (by simp) _⟩
     ·have h := (b1.setOther (a := ⟨w.heap.size + 1 + 1, 0, none⟩) (by simp) (.int .i64 (q : Int))).set q (.int .u8 (IntKind.u8.wrap (partAt a k m)))
      rw [hby.out, show q = 31 - (8 * k + m) by omega, outAt_succ a (8 * k + m) (by omega)] at h
      rw [hby.out, show q = 31 - (8 * k + m) by omega]
      exact h.congr (fun i hi => (if_pos hi).trans rfl)
     ·have h := Boxed.away (Boxed.set (.int .i64 (q : Int)) b2) (p := ⟨w.heap.size + 1, q, none⟩) (by simp) (.int .u8 (IntKind.u8.wrap (partAt a k m)))
      rw [show ((32 - (8 * k + (m + 1)) : Nat) : Int) = (q : Int) by omega]
      exact h
     ·exact Arr4.other (Arr4.other b3 (by simp; omega) _) (by simp) _
     ·exact Boxed.away (Boxed.away b4 (by simp) _) (by simp; omega) _
    have HS := Lib.hid hst'
    have HB := Lib.hid hB
    clear hst' b1 b2 b3 b4 hst hB hJ0 hq
    gi_wp2
    go_roundw
    case rel => exact ⟨m + 1, by omega, by simp, by rw [hps.out], HS.out, (hKa.setCell (by first | (simp; done) | (simp; omega)) _).setCell (by first | (simp; done) | (simp; omega)) _, (hKf.trans ((KeepsOthers.setCell _ _ _).from _)).trans ((KeepsOthers.setCell _ _ _).from _)⟩
    case measure => simp [intOf]; omega
   ·obtain rfl : m = 8 := by omega
    gi_wp2
    exact ⟨hKf, hKa, ⟨⟨b1, b2, b3, b4⟩, hB⟩⟩
 case done =>
  rintro D W hD ⟨⟨b1, b2, b3, b4⟩, hB⟩ hK
  have hcv := run_convert_bytes_arg (P := Tryz.prog) W 42 5 Tryz.underlying42 Tryz.underlying5 (w.heap.size + 1) 0 32 32 ((List.range 32).map fun j => (byteN a (31 - j) : Int)) (by simp) (fun i hi => by
   have h := b1.cell hi
   rw [Nat.zero_add, h]
   unfold outAt
   rw [if_pos (by omega)]
   simp [hi]) 9 Tryz.underlying9
  have HK := Lib.hid hK
  have HB := Lib.hid hB
  have e : strOfNums ((List.range 32).map fun j => (byteN a (31 - j) : Int)) = bytesOf a := rfl
  rw [e] at hcv
  clear e b1 b2 b3 b4 hK hB hJ0
  gi_wp2
  refine ⟨by simp, .inl ⟨_, _, rfl, run_takeDeferred HK.out, ?_⟩⟩
  exact ⟨_, results_tmp rfl _ _ _, rfl, HB.out.trans (belowK_b (w := w) (Nat.le_refl _) _ D _ _ (by omega) HK.out rfl rfl)⟩
 case stop =>
  rintro D c k W _ _ h _
  exact h.elim
end
section
open Go
abbrev Inf := List UInt8 × Nat × Nat × Nat
def opRow0 : List (Nat × Inf) := [(0, [83, 84, 79, 80], 0, 0, 0),
 (1, [65, 68, 68], 2, 1, 3),
 (2, [77, 85, 76], 2, 1, 5),
 (3, [83, 85, 66], 2, 1, 3),
 (4, [68, 73, 86], 2, 1, 5),
 (5, [83, 68, 73, 86], 2, 1, 5),
 (6, [77, 79, 68], 2, 1, 5),
 (7, [83, 77, 79, 68], 2, 1, 5),
 (8, [65, 68, 68, 77, 79, 68], 3, 1, 8),
 (9, [77, 85, 76, 77, 79, 68], 3, 1, 8),
 (10, [69, 88, 80], 2, 1, 10),
 (11, [83, 73, 71, 78, 69, 88, 84, 69, 78, 68], 2, 1, 5)]
def opRow1 : List (Nat × Inf) := [(16, [76, 84], 2, 1, 3),
 (17, [71, 84], 2, 1, 3),
 (18, [83, 76, 84], 2, 1, 3),
 (19, [83, 71, 84], 2, 1, 3),
 (20, [69, 81], 2, 1, 3),
 (21, [73, 83, 90, 69, 82, 79], 1, 1, 3),
 (22, [65, 78, 68], 2, 1, 3),
 (23, [79, 82], 2, 1, 3),
 (24, [88, 79, 82], 2, 1, 3),
 (25, [78, 79, 84], 1, 1, 3),
 (26, [66, 89, 84, 69], 2, 1, 3),
 (27, [83, 72, 76], 2, 1, 3),
 (28, [83, 72, 82], 2, 1, 3),
 (29, [83, 65, 82], 2, 1, 3)]
def opRow2 : List (Nat × Inf) := [(32, [75, 69, 67, 67, 65, 75, 50, 53, 54], 2, 1, 30)]
def opRow3 : List (Nat × Inf) := [(48, [65, 68, 68, 82, 69, 83, 83], 0, 1, 2),
 (49, [66, 65, 76, 65, 78, 67, 69], 1, 1, 0),
 (50, [79, 82, 73, 71, 73, 78], 0, 1, 2),
 (51, [67, 65, 76, 76, 69, 82], 0, 1, 2),
 (52, [67, 65, 76, 76, 86, 65, 76, 85, 69], 0, 1, 2),
 (53, [67, 65, 76, 76, 68, 65, 84, 65, 76, 79, 65, 68], 1, 1, 3),
 (54, [67, 65, 76, 76, 68, 65, 84, 65, 83, 73, 90, 69], 0, 1, 2),
 (55, [67, 65, 76, 76, 68, 65, 84, 65, 67, 79, 80, 89], 3, 0, 3),
 (56, [67, 79, 68, 69, 83, 73, 90, 69], 0, 1, 2),
 (57, [67, 79, 68, 69, 67, 79, 80, 89], 3, 0, 3),
 (58, [71, 65, 83, 80, 82, 73, 67, 69], 0, 1, 2),
 (59, [69, 88, 84, 67, 79, 68, 69, 83, 73, 90, 69], 1, 1, 0),
 (60, [69, 88, 84, 67, 79, 68, 69, 67, 79, 80, 89], 4, 0, 0),
 (61, [82, 69, 84, 85, 82, 78, 68, 65, 84, 65, 83, 73, 90, 69], 0, 1, 2),
 (62, [82, 69, 84, 85, 82, 78, 68, 65, 84, 65, 67, 79, 80, 89], 3, 0, 3),
 (63, [69, 88, 84, 67, 79, 68, 69, 72, 65, 83, 72], 1, 1, 0)]
def opRow4 : List (Nat × Inf) := [(64, [66, 76, 79, 67, 75, 72, 65, 83, 72], 1, 1, 20),
 (65, [67, 79, 73, 78, 66, 65, 83, 69], 0, 1, 2),
 (66, [84, 73, 77, 69, 83, 84, 65, 77, 80], 0, 1, 2),
 (67, [78, 85, 77, 66, 69, 82], 0, 1, 2),
 (68, [80, 82, 69, 86, 82, 65, 78, 68, 65, 79], 0, 1, 2),
 (69, [71, 65, 83, 76, 73, 77, 73, 84], 0, 1, 2),
 (70, [67, 72, 65, 73, 78, 73, 68], 0, 1, 2),
 (71, [83, 69, 76, 70, 66, 65, 76, 65, 78, 67, 69], 0, 1, 5),
 (72, [66, 65, 83, 69, 70, 69, 69], 0, 1, 2)]
def opRow5 : List (Nat × Inf) := [(80, [80, 79, 80], 1, 0, 2),
 (81, [77, 76, 79, 65, 68], 1, 1, 3),
 (82, [77, 83, 84, 79, 82, 69], 2, 0, 3),
 (83, [77, 83, 84, 79, 82, 69, 56], 2, 0, 3),
 (84, [83, 76, 79, 65, 68], 1, 1, 0),
 (85, [83, 83, 84, 79, 82, 69], 2, 0, 0),
 (86, [74, 85, 77, 80], 1, 0, 8),
 (87, [74, 85, 77, 80, 73], 2, 0, 10),
 (88, [80, 67], 0, 1, 2),
 (89, [77, 83, 73, 90, 69], 0, 1, 2),
 (90, [71, 65, 83], 0, 1, 2),
 (91, [74, 85, 77, 80, 68, 69, 83, 84], 0, 0, 1),
 (95, [80, 85, 83, 72, 48], 0, 1, 2)]
def opRow6 : List (Nat × Inf) := [(96, [80, 85, 83, 72, 49], 0, 1, 3),
 (97, [80, 85, 83, 72, 50], 0, 1, 3),
 (98, [80, 85, 83, 72, 51], 0, 1, 3),
 (99, [80, 85, 83, 72, 52], 0, 1, 3),
 (100, [80, 85, 83, 72, 53], 0, 1, 3),
 (101, [80, 85, 83, 72, 54], 0, 1, 3),
 (102, [80, 85, 83, 72, 55], 0, 1, 3),
 (103, [80, 85, 83, 72, 56], 0, 1, 3),
 (104, [80, 85, 83, 72, 57], 0, 1, 3),
 (105, [80, 85, 83, 72, 49, 48], 0, 1, 3),
 (106, [80, 85, 83, 72, 49, 49], 0, 1, 3),
 (107, [80, 85, 83, 72, 49, 50], 0, 1, 3),
 (108, [80, 85, 83, 72, 49, 51], 0, 1, 3),
 (109, [80, 85, 83, 72, 49, 52], 0, 1, 3),
 (110, [80, 85, 83, 72, 49, 53], 0, 1, 3),
 (111, [80, 85, 83, 72, 49, 54], 0, 1, 3)]
def opRow7 : List (Nat × Inf) := [(112, [80, 85, 83, 72, 49, 55], 0, 1, 3),
 (113, [80, 85, 83, 72, 49, 56], 0, 1, 3),
 (114, [80, 85, 83, 72, 49, 57], 0, 1, 3),
 (115, [80, 85, 83, 72, 50, 48], 0, 1, 3),
 (116, [80, 85, 83, 72, 50, 49], 0, 1, 3),
 (117, [80, 85, 83, 72, 50, 50], 0, 1, 3),
 (118, [80, 85, 83, 72, 50, 51], 0, 1, 3),
 (119, [80, 85, 83, 72, 50, 52], 0, 1, 3),
 (120, [80, 85, 83, 72, 50, 53], 0, 1, 3),
 (121, [80, 85, 83, 72, 50, 54], 0, 1, 3),
 (122, [80, 85, 83, 72, 50, 55], 0, 1, 3),
 (123, [80, 85, 83, 72, 50, 56], 0, 1, 3),
 (124, [80, 85, 83, 72, 50, 57], 0, 1, 3),
 (125, [80, 85, 83, 72, 51, 48], 0, 1, 3),
 (126, [80, 85, 83, 72, 51, 49], 0, 1, 3),
 (127, [80, 85, 83, 72, 51, 50], 0, 1, 3)]
def opRow8 : List (Nat × Inf) := [(128, [68, 85, 80, 49], 1, 2, 3),
 (129, [68, 85, 80, 50], 2, 3, 3),
 (130, [68, 85, 80, 51], 3, 4, 3),
 (131, [68, 85, 80, 52], 4, 5, 3),
 (132, [68, 85, 80, 53], 5, 6, 3),
 (133, [68, 85, 80, 54], 6, 7, 3),
 (134, [68, 85, 80, 55], 7, 8, 3),
 (135, [68, 85, 80, 56], 8, 9, 3),
 (136, [68, 85, 80, 57], 9, 10, 3),
 (137, [68, 85, 80, 49, 48], 10, 11, 3),
 (138, [68, 85, 80, 49, 49], 11, 12, 3),
 (139, [68, 85, 80, 49, 50], 12, 13, 3),
 (140, [68, 85, 80, 49, 51], 13, 14, 3),
 (141, [68, 85, 80, 49, 52], 14, 15, 3),
 (142, [68, 85, 80, 49, 53], 15, 16, 3),
 (143, [68, 85, 80, 49, 54], 16, 17, 3)]
def opRow9 : List (Nat × Inf) := [(144, [83, 87, 65, 80, 49], 2, 2, 3),
 (145, [83, 87, 65, 80, 50], 3, 3, 3),
 (146, [83, 87, 65, 80, 51], 4, 4, 3),
 (147, [83, 87, 65, 80, 52], 5, 5, 3),
 (148, [83, 87, 65, 80, 53], 6, 6, 3),
 (149, [83, 87, 65, 80, 54], 7, 7, 3),
 (150, [83, 87, 65, 80, 55], 8, 8, 3),
 (151, [83, 87, 65, 80, 56], 9, 9, 3),
 (152, [83, 87, 65, 80, 57], 10, 10, 3),
 (153, [83, 87, 65, 80, 49, 48], 11, 11, 3),
 (154, [83, 87, 65, 80, 49, 49], 12, 12, 3),
 (155, [83, 87, 65, 80, 49, 50], 13, 13, 3),
 (156, [83, 87, 65, 80, 49, 51], 14, 14, 3),
 (157, [83, 87, 65, 80, 49, 52], 15, 15, 3),
 (158, [83, 87, 65, 80, 49, 53], 16, 16, 3),
 (159, [83, 87, 65, 80, 49, 54], 17, 17, 3)]
def opRow10 : List (Nat × Inf) := [(160, [76, 79, 71, 48], 2, 0, 375),
 (161, [76, 79, 71, 49], 3, 0, 750),
 (162, [76, 79, 71, 50], 4, 0, 1125),
 (163, [76, 79, 71, 51], 5, 0, 1500),
 (164, [76, 79, 71, 52], 6, 0, 1875)]
def opRow11 : List (Nat × Inf) := []
def opRow12 : List (Nat × Inf) := []
def opRow13 : List (Nat × Inf) := []
def opRow14 : List (Nat × Inf) := []
def opRow15 : List (Nat × Inf) := [(240, [67, 82, 69, 65, 84, 69], 3, 1, 32000),
 (241, [67, 65, 76, 76], 7, 1, 0),
 (242, [67, 65, 76, 76, 67, 79, 68, 69], 7, 1, 0),
 (243, [82, 69, 84, 85, 82, 78], 2, 0, 0),
 (244, [68, 69, 76, 69, 71, 65, 84, 69, 67, 65, 76, 76], 6, 1, 0),
 (245, [67, 82, 69, 65, 84, 69, 50], 4, 1, 32000),
 (250, [83, 84, 65, 84, 73, 67, 67, 65, 76, 76], 6, 1, 0),
 (253, [82, 69, 86, 69, 82, 84], 2, 0, 0),
 (254, [73, 78, 86, 65, 76, 73, 68], 0, 0, 0),
 (255, [83, 69, 76, 70, 68, 69, 83, 84, 82, 85, 67, 84], 1, 0, 5000)]
def opRow : Nat → List (Nat × Inf)
 | 0 => opRow0
 | 1 => opRow1
 | 2 => opRow2
 | 3 => opRow3
 | 4 => opRow4
 | 5 => opRow5
 | 6 => opRow6
 | 7 => opRow7
 | 8 => opRow8
 | 9 => opRow9
 | 10 => opRow10
 | 11 => opRow11
 | 12 => opRow12
 | 13 => opRow13
 | 14 => opRow14
 | 15 => opRow15
 | _ => []
def findI (l : List (Nat × Inf)) (op : Nat) : Option Inf := (l.find? (fun p => p.1 == op)).map (·.2)
def opI (op : Nat) : Option Inf := findI (opRow (op / 16)) op
def infV (x : Inf) : Value := .agg #[.string ⟨x.1.toArray⟩, .int .i64 (x.2.1 : Nat), .int .i64 (x.2.2.1 : Nat), .int .i64 (x.2.2.2 : Nat)]
def noInf : Inf := ([], 0, 0, 0)
end
section
open Go Go.RowKit Go.Maps Go.WideMaps Go.ChangeMaps
def RV (v : Value) : Option (DataW Value × List MemPlace) := some (.held v, [])
abbrev tB : TypeId := 5
abbrev tI : TypeId := 67
abbrev tMB : TypeId := 70
abbrev tSt : TypeId := 9
theorem lawB : Keyed Tryz.prog tB := int_keyed Tryz.underlying5
def keyB (op : Nat) : Lit := .int .u8 (op : Int)
def keyS (s : List UInt8) : Lit := .string s
theorem keyB_of {op : Nat} (h : op < 256) : keyOf Tryz.prog tB (.int .u8 (op : Int)) = some (keyB op) :=
 keyOf_int_mk Tryz.underlying5 (by simp [Lit.wf, IntKind.min, IntKind.max, IntKind.signed, IntKind.bits]; omega)
theorem keyB_inj {a b : Nat} (h : keyB a = keyB b) : a = b := by
 have : ((a : Int)) = (b : Int) := by simpa [keyB] using h
 omega
def TellsAt (D : DataW Value) (kl : Lit) : Option Value → Prop
 | none => has D kl = false
 | some v => has D kl = true ∧ ∀ z, D.atKey kl z = .held v
theorem TellsAt.put_same {D : DataW Value} (hD : IsMap D) {kl : Lit} (hk : WideAt.IsKeyLit kl) (v : Value) : TellsAt (D.put kl (.held v)) kl (some v) :=
 ⟨has_put_same hD hk _, fun z => atKey_put_same hD hk _ z⟩
theorem TellsAt.put_other {D : DataW Value} {kl kl' : Lit} (hne : kl' ≠ kl) {x : Option Value} (h : TellsAt D kl' x) (d : DataW Value) : TellsAt (D.put kl d) kl' x := by
 cases x with
 | none => exact (has_put_other hne d).trans h
 | some v => exact ⟨(has_put_other hne d).trans h.1, fun z => (atKey_put_other hne d z).trans (h.2 z)⟩
def MapB (w : World) (B n : Nat) (f : Nat → Option Inf) : Prop :=
 ∃ D, w.ownsMap Tryz.prog tB RV B n D ∧ ∀ op, op < 256 → TellsAt D (keyB op) ((f op).map infV)
theorem MapB.made (w : World) : MapB (w.alloc (.map #[] 0)) w.heap.size 0 (fun _ => none) := ⟨_, World.ownsMap_made _ _ _ _, fun _ _ => rfl⟩
theorem MapB.mono {w : World} {B n n' : Nat} {f : Nat → Option Inf} (h : MapB w B n f) (hn : n ≤ n') : MapB w B n' f := by obtain ⟨D, h1, h2⟩ := h; exact ⟨D, h1.mono hn, h2⟩
theorem MapB.lt {w : World} {B n : Nat} {f : Nat → Option Inf} (h : MapB w B n f) : B < w.heap.size := by obtain ⟨D, h1, _⟩ := h; exact h1.lt
theorem MapB.below {w w' : World} {B n b : Nat} {f : Nat → Option Inf} (h : MapB w B n f) (hx : Below b w w') (hb : B < b) : MapB w' B n f := by
 obtain ⟨D, ⟨es, clock, h1, h3⟩, h2⟩ := h
 exact ⟨D, ⟨es, clock, (hx.block B hb).trans h1, h3⟩, h2⟩
theorem MapB.congr {w : World} {B n : Nat} {f g : Nat → Option Inf} (h : MapB w B n f) (hf : ∀ op, op < 256 → f op = g op) : MapB w B n g := by
 obtain ⟨D, h1, h2⟩ := h
 exact ⟨D, h1, fun op ho => by rw [← hf op ho]; exact h2 op ho⟩
def putMB (f : Nat → Option Inf) (op : Nat) (x : Inf) : Nat → Option Inf := fun o => if o = op then some x else f o
theorem MapB.put {w' : World} {B n op : Nat} {x : Inf} {f : Nat → Option Inf} {D : DataW Value} (h2 : ∀ o, o < 256 → TellsAt D (keyB o) ((f o).map infV)) (hD : IsMap D)
  (h : w'.ownsMap Tryz.prog tB RV B n (D.put (keyB op) (.held (infV x)))) : MapB w' B n (putMB f op x) :=
 ⟨_, h, fun o ho => by
  by_cases he : o = op
  ·subst he
   simp only [putMB, if_true, Option.map_some]
   exact TellsAt.put_same hD (by simp [keyB, WideAt.IsKeyLit]) _
  ·simp only [putMB, if_neg he]
   exact (h2 o ho).put_other (fun e => he (keyB_inj e)) _⟩
section OpAs
variable (w : World) {ops : Array Oper} {rest : List Oper} {o : Oper} {a : Act} {Q : Exit → Act → World → Prop}
theorem wpList_putMB (hg : o.guard = none) (m k v : Operand) (hop : o.op = Op.mapUpdate tMB m k v ∨ o.op = Op.insert tMB m k v) (B n : Nat) (f : Nat → Option Inf) (hm : a.eval m = .map (some B)) (hown : MapB w B n f) (hn : n < 1000)
  (op : Nat) (x : Inf) (hk : a.eval k = .int .u8 (op : Int)) (hop' : op < 256) (hv : a.eval v = infV x)
  (hK : ∀ w', MapB w' B (n + 1) (putMB f op x) → w.grownBy w' (some B) → wpList Tryz.prog ops Q rest (a.put o.dst undef) w') : wpList Tryz.prog ops Q (o :: rest) a w := by
 refine wpList_plain hg fun K' hK' => ?_
 obtain ⟨D, h1, h2⟩ := hown
 obtain ⟨w', hrun, r1, r2⟩ := h1.update lawB Tryz.underlying70 (val := infV x) (d := .held (infV x)) (ps := []) (Nat.lt_of_lt_of_le hn (by decide)) (keyB_of hop') rfl
 unfold Oper.wp
 rcases hop with hop | hop <;>
 ·simp [execOp, hop, hm, hk, hv, hrun, Result.andThen]
  exact hK' _ _ (hK w' (MapB.put h2 h1.isMap r1) r2)
def lookV (f : Nat → Option Inf) (op : Nat) : Value := .tuple #[infV ((f op).getD noInf), .bool (f op).isSome]
theorem zeroI (w : World) : (zeroValue tI).run Tryz.prog w = .ok (infV noInf) w := by kernel_rfl
theorem wpList_lookB (hg : o.guard = none) (m k : Operand) (hop : o.op = Op.lookup tMB m k true) (B n : Nat) (f : Nat → Option Inf) (hm : a.eval m = .map (some B)) (hown : MapB w B n f)
  (op : Nat) (hk : a.eval k = .int .u8 (op : Int)) (hop' : op < 256) (hK : wpList Tryz.prog ops Q rest (a.put o.dst (lookV f op)) w) : wpList Tryz.prog ops Q (o :: rest) a w := by
 refine wpList_plain hg fun K' hK' => ?_
 obtain ⟨D, h1, h2⟩ := hown
 obtain ⟨v, ps, hrun, hv⟩ := h1.look_ok lawB Tryz.underlying70 (zeroI w) (zd := .held (infV noInf)) (zp := []) rfl (keyB_of hop')
 have e : Value.tuple #[v, .bool (has D (keyB op))] = lookV f op := by
  have ht := h2 op hop'
  unfold lookV
  cases hf : f op with
  | none =>
   rw [hf] at ht
   have hz : D.atKey (keyB op) (.held (infV noInf)) = .held (infV noInf) := atKey_of_not_has ht _
   rw [hz] at hv
   simp only [RV, Option.some.injEq, Prod.mk.injEq, DataW.held.injEq] at hv
   rw [hv.1]
   simp only [TellsAt, Option.map_none] at ht
   rw [ht]
   rfl
  | some x =>
   rw [hf] at ht
   rw [ht.2] at hv
   simp only [RV, Option.some.injEq, Prod.mk.injEq, DataW.held.injEq] at hv
   rw [hv.1, ht.1]
   rfl
 unfold Oper.wp
 simp [execOp, hop, hm, hk, hrun, Result.andThen]
 rw [e]
 exact hK' _ _ hK
theorem wpList_lookB_nil (hg : o.guard = none) (m k : Operand) (hop : o.op = Op.lookup tMB m k true) (hm : a.eval m = .map none)
  (op : Nat) (hk : a.eval k = .int .u8 (op : Int)) (hop' : op < 256) (hK : wpList Tryz.prog ops Q rest (a.put o.dst (lookV (fun _ => none) op)) w) : wpList Tryz.prog ops Q (o :: rest) a w := by
 refine wpList_plain hg fun K' hK' => ?_
 have hrun := look_nil true lawB Tryz.underlying70 (zeroI w) (keyB_of hop')
 unfold Oper.wp
 simp [execOp, hop, hm, hk, hrun, Result.andThen]
 exact hK' _ _ hK
end OpAs
end
section
open Go Go.RowKit
def ln (n k : Nat) : Nat := n / 2 ^ (64 * k) % 2 ^ 64
theorem ln_lt (n k : Nat) : ln n k < 18446744073709551616 := Nat.mod_lt _ (by decide)
theorem lim_ln (n k : Nat) (hk : k < 4) : lim n k = (ln n k : Int) := by
 rcases (show k = 0 ∨ k = 1 ∨ k = 2 ∨ k = 3 by omega) with rfl | rfl | rfl | rfl <;> unfold lim ln <;> simp
theorem ln_bit (n k i : Nat) : (ln n k).testBit i = (decide (i < 64) && n.testBit (64 * k + i)) := by
 unfold ln
 rw [Nat.testBit_mod_two_pow, Nat.testBit_div_two_pow, Nat.add_comm i]
theorem ln_and (a b k : Nat) : ln (a &&& b) k = ln a k &&& ln b k := by
 refine Nat.eq_of_testBit_eq fun i => ?_
 rw [Nat.testBit_and, ln_bit, ln_bit, ln_bit, Nat.testBit_and]
 cases decide (i < 64) <;> simp
theorem ln_or (a b k : Nat) : ln (a ||| b) k = ln a k ||| ln b k := by
 refine Nat.eq_of_testBit_eq fun i => ?_
 rw [Nat.testBit_or, ln_bit, ln_bit, ln_bit, Nat.testBit_or]
 cases decide (i < 64) <;> simp
theorem ln_xor (a b k : Nat) : ln (a ^^^ b) k = ln a k ^^^ ln b k := by
 refine Nat.eq_of_testBit_eq fun i => ?_
 rw [Nat.testBit_xor, ln_bit, ln_bit, ln_bit, Nat.testBit_xor]
 cases decide (i < 64) <;> simp
theorem w256_pow (n : Nat) : W256 n ↔ n < 2 ^ 256 := by unfold W256; rw [show (2 : Nat) ^ 256 = 115792089237316195423570985008687907853269984665640564039457584007913129639936 by decide]
theorem and_lt (a b : Nat) (hb : W256 b) : W256 (a &&& b) := (w256_pow _).2 (Nat.and_lt_two_pow _ ((w256_pow b).1 hb))
theorem or_lt (a b : Nat) (ha : W256 a) (hb : W256 b) : W256 (a ||| b) := (w256_pow _).2 (Nat.or_lt_two_pow ((w256_pow a).1 ha) ((w256_pow b).1 hb))
theorem xor_lt (a b : Nat) (ha : W256 a) (hb : W256 b) : W256 (a ^^^ b) := (w256_pow _).2 (Nat.xor_lt_two_pow ((w256_pow a).1 ha) ((w256_pow b).1 hb))
theorem bits_and_lim (a b k : Nat) (hk : k < 4) : bits .and .u64 (lim a k) (lim b k) = lim (a &&& b) k := by
 rw [lim_ln _ _ hk, lim_ln _ _ hk, lim_ln _ _ hk, ln_and]
 exact bits_and_u64_nat _ _ (ln_lt _ _) (ln_lt _ _)
theorem bits_or_lim (a b k : Nat) (hk : k < 4) : bits .or .u64 (lim a k) (lim b k) = lim (a ||| b) k := by
 rw [lim_ln _ _ hk, lim_ln _ _ hk, lim_ln _ _ hk, ln_or]
 exact bits_or_u64_nat _ _ (ln_lt _ _) (ln_lt _ _)
theorem bits_xor_lim (a b k : Nat) (hk : k < 4) : bits .xor .u64 (lim a k) (lim b k) = lim (a ^^^ b) k := by
 have hx : ln a k ^^^ ln b k < 2 ^ 64 := Nat.xor_lt_two_pow (ln_lt a k) (ln_lt b k)
 rw [lim_ln _ _ hk, lim_ln _ _ hk, lim_ln _ _ hk, ln_xor]
 have e := u64_xor (ln a k) (ln b k) (by omega) (by have := ln_lt a k; omega) (by omega) (by have := ln_lt b k; omega)
 rw [e, Int.toNat_natCast, Int.toNat_natCast]
def tzF : Nat → Nat → Nat
 | 0, _ => 0
 | f + 1, p => if p % 2 = 1 then 0 else tzF f (p / 2) + 1
def tz (p : Nat) : Nat := tzF 64 p
theorem tzF_split : ∀ (f p : Nat), p ≠ 0 → p < 2 ^ f → ∃ m, p = 2 ^ tzF f p * (2 * m + 1) ∧ tzF f p < f
 | 0, p, h0, hp => by simp at hp; omega
 | f + 1, p, h0, hp => by
  unfold tzF
  by_cases h : p % 2 = 1
  ·rw [if_pos h]; exact ⟨p / 2, by simp; omega, by omega⟩
  ·rw [if_neg h]
   rw [Nat.pow_succ] at hp
   obtain ⟨m, hm, hf⟩ := tzF_split f (p / 2) (by omega) (by omega)
   refine ⟨m, ?_, by omega⟩
   have h2 : p = 2 * (p / 2) := by omega
   rw [Nat.pow_succ, Nat.mul_right_comm, ← hm]
   omega
theorem tz_split (p : Nat) (h0 : p ≠ 0) (hp : p < 18446744073709551616) : ∃ m, p = 2 ^ tz p * (2 * m + 1) ∧ tz p < 64 := tzF_split 64 p h0 (by omega)
theorem odd_bit (m j : Nat) : (2 * m + 1).testBit j = (decide (j = 0) || (decide (1 ≤ j) && m.testBit (j - 1))) := by
 cases j with
 | zero => simp
 | succ j =>
  rw [Nat.testBit_succ, show (2 * m + 1) / 2 = m by omega]
  simp
theorem split_bit (t m j : Nat) : (2 ^ t * (2 * m + 1)).testBit j = (decide (j = t) || (decide (t + 1 ≤ j) && m.testBit (j - t - 1))) := by
 rw [Nat.testBit_two_pow_mul, odd_bit]
 by_cases h1 : j < t
 ·rw [decide_eq_false (show ¬ j ≥ t by omega), decide_eq_false (show ¬ j = t by omega), decide_eq_false (show ¬ t + 1 ≤ j by omega)]; rfl
 ·by_cases h2 : j = t
  ·subst h2; simp
  ·rw [decide_eq_true (show j ≥ t by omega), decide_eq_false (show ¬ j - t = 0 by omega), decide_eq_true (show 1 ≤ j - t by omega), decide_eq_false h2, decide_eq_true (show t + 1 ≤ j by omega)]; rfl
def clr (p : Nat) : Nat := p - 2 ^ tz p
theorem clr_lt (p : Nat) (h0 : p ≠ 0) : clr p < p := by
 unfold clr
 have := Nat.two_pow_pos (tz p)
 omega
theorem clr_bit (p : Nat) (h0 : p ≠ 0) (hp : p < 18446744073709551616) (j : Nat) : (clr p).testBit j = (p.testBit j && decide (j ≠ tz p)) := by
 obtain ⟨m, hm, _⟩ := tz_split p h0 hp
 have e : clr p = 2 ^ tz p * (2 * m) := by unfold clr; rw [Nat.mul_add, Nat.mul_one] at hm; omega
 rw [e]
 generalize tz p = t at *
 rw [hm, split_bit, Nat.testBit_two_pow_mul]
 by_cases h1 : j < t
 ·rw [decide_eq_false (show ¬ j ≥ t by omega), decide_eq_false (show ¬ j = t by omega), decide_eq_false (show ¬ t + 1 ≤ j by omega)]; rfl
 ·by_cases h2 : j = t
  ·subst h2; simp
  ·rw [decide_eq_true (show j ≥ t by omega), decide_eq_false h2, decide_eq_true (show t + 1 ≤ j by omega), decide_eq_true (show j ≠ t from h2)]
   obtain ⟨i, hi⟩ : ∃ i, j - t = i + 1 := ⟨j - t - 1, by omega⟩
   rw [hi, Nat.testBit_succ, show 2 * m / 2 = m by omega]
   simp
theorem and_pred (p : Nat) (h0 : p ≠ 0) (hp : p < 18446744073709551616) : p &&& (p - 1) = clr p := by
 refine Nat.eq_of_testBit_eq fun j => ?_
 rw [Nat.testBit_and, clr_bit p h0 hp]
 obtain ⟨m, hm, _⟩ := tz_split p h0 hp
 have e : p - 1 = 2 ^ tz p * (2 * m) + (2 ^ tz p - 1) := by
  have := Nat.two_pow_pos (tz p)
  rw [Nat.mul_add, Nat.mul_one] at hm; omega
 rw [e]
 generalize tz p = t at *
 rw [Nat.testBit_two_pow_mul_add _ (by have := Nat.two_pow_pos t; omega), hm, split_bit]
 by_cases h1 : j < t
 ·rw [if_pos h1, decide_eq_false (show ¬ j = t by omega), decide_eq_false (show ¬ t + 1 ≤ j by omega)]; rfl
 ·rw [if_neg h1]
  by_cases h2 : j = t
  ·subst h2; simp
  ·rw [decide_eq_false h2, decide_eq_true (show t + 1 ≤ j by omega), decide_eq_true (show j ≠ t from h2)]
   obtain ⟨i, hi⟩ : ∃ i, j - t = i + 1 := ⟨j - t - 1, by omega⟩
   rw [hi, Nat.testBit_succ, show 2 * m / 2 = m by omega]
   simp
theorem and_neg (p : Nat) (h0 : p ≠ 0) (hp : p < 18446744073709551616) : p &&& (18446744073709551616 - p) = 2 ^ tz p := by
 obtain ⟨m, hm, ht⟩ := tz_split p h0 hp
 generalize tz p = t at *
 have e64 : (18446744073709551616 : Nat) = 2 ^ t * (2 * 2 ^ (63 - t)) := by
  rw [← Nat.pow_succ', ← Nat.pow_add, show t + (63 - t + 1) = 64 by omega]
 have hmt : m < 2 ^ (63 - t) := by
  have h1 : 2 ^ t * (2 * m + 1) < 2 ^ t * (2 * 2 ^ (63 - t)) := by rw [← hm, ← e64]; exact hp
  have := Nat.lt_of_mul_lt_mul_left h1
  omega
 have e : 18446744073709551616 - p = 2 ^ t * (2 * (2 ^ (63 - t) - (m + 1)) + 1) := by
  rw [hm, e64, ← Nat.mul_sub]
  congr 1
  omega
 rw [e, hm]
 refine Nat.eq_of_testBit_eq fun j => ?_
 rw [Nat.testBit_and, split_bit, split_bit, Nat.testBit_two_pow, Nat.testBit_two_pow_sub_succ hmt]
 by_cases h2 : j = t
 ·subst h2; simp
 ·rw [decide_eq_false h2, decide_eq_false (show ¬ t = j from fun h => h2 h.symm)]
  cases decide (t + 1 ≤ j) <;> cases m.testBit (j - t - 1) <;> simp
def onesL (p : Nat) : List Nat := if _h : p = 0 then [] else tz p :: onesL (clr p)
termination_by p
decreasing_by exact clr_lt p _h
theorem onesL_zero : onesL 0 = [] := by rw [onesL]; simp
theorem onesL_succ (p : Nat) (h : p ≠ 0) : onesL p = tz p :: onesL (clr p) := by rw [onesL, dif_neg h]
theorem onesL_mem (p : Nat) : p < 18446744073709551616 → ∀ j, j ∈ onesL p ↔ p.testBit j = true := by
 induction p using Nat.strongRecOn with
 | _ p ih =>
  intro hp j
  by_cases h : p = 0
  ·subst h; rw [onesL_zero]; simp
  ·rw [onesL_succ p h, List.mem_cons, ih (clr p) (clr_lt p h) (by have := clr_lt p h; omega), clr_bit p h hp]
   obtain ⟨m, hm, _⟩ := tz_split p h hp
   have ht : p.testBit (tz p) = true := by
    generalize tz p = t at *
    rw [hm, split_bit]; simp
   by_cases e : j = tz p
   ·rw [e, ht]; simp
   ·simp [e]
def restF (a : Nat) : Nat → Nat → List Nat
 | 0, _ => []
 | n + 1, i => (onesL (ln a i)).map (64 * i + ·) ++ restF a n (i + 1)
def allOnes (a : Nat) : List Nat := restF a 4 0
theorem restF_mem (a : Nat) : ∀ (n i q : Nat), q ∈ restF a n i ↔ (64 * i ≤ q ∧ q < 64 * (i + n) ∧ a.testBit q = true)
 | 0, i, q => by unfold restF; simp; omega
 | n + 1, i, q => by
  unfold restF
  rw [List.mem_append, restF_mem a n (i + 1) q, List.mem_map]
  constructor
  ·rintro (⟨j, hj, rfl⟩ | ⟨h1, h2, h3⟩)
   ·rw [onesL_mem _ (ln_lt a i), ln_bit] at hj
    simp only [Bool.and_eq_true, decide_eq_true_eq] at hj
    exact ⟨by omega, by omega, hj.2⟩
   ·exact ⟨by omega, by omega, h3⟩
  ·rintro ⟨h1, h2, h3⟩
   by_cases h : q < 64 * (i + 1)
   ·refine .inl ⟨q - 64 * i, ?_, by omega⟩
    rw [onesL_mem _ (ln_lt a i), ln_bit, show 64 * i + (q - 64 * i) = q by omega, h3]
    simp; omega
   ·exact .inr ⟨by omega, by omega, h3⟩
theorem allOnes_mem (a : Nat) (ha : W256 a) (q : Nat) : q ∈ allOnes a ↔ a.testBit q = true := by
 unfold allOnes
 rw [restF_mem]
 refine ⟨fun h => h.2.2, fun h => ⟨by omega, ?_, h⟩⟩
 rcases Nat.lt_or_ge q 256 with h' | h'
 ·omega
 ·have : a.testBit q = false := Nat.testBit_lt_two_pow (Nat.lt_of_lt_of_le ((w256_pow a).1 ha) (Nat.pow_le_pow_right (by omega) h'))
  rw [this] at h; cases h
theorem allOnes_lt (a q : Nat) (h : q ∈ allOnes a) : q < 256 := by
 have := ((restF_mem a 4 0 q).1 h).2.1
 omega
end
end Go.Proofs.YtnkhmgmganejmaaGreatDoor
