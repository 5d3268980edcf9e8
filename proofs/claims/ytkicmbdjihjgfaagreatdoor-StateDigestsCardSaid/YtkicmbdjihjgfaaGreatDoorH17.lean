/- Part. -/
import Derived.Deep.OwnRows
import Derived.Laws.BytesArg
import Derived.Test.YtkicmbdjihjgfaaGreatDoorH04
import Derived.Lib.Mul64
import Derived.Shelf.Bits.Mul64
import Derived.Laws.MakeOwn
import Derived.Laws.AppendOwn
import Derived.OwnWalk
import Derived.WalkSmall
import Derived.Lib.TrimByte
import Derived.Lib.Strings
import Derived.Test.YtkicmbdjihjgfaaGreatDoorH16
import Derived.Test.YtkicmbdjihjgfaaGreatDoorH03
set_option maxRecDepth 100000
set_option maxHeartbeats 16000000
namespace Go.Proofs.YtkicmbdjihjgfaaGreatDoor
section
open Go Go.RowKit Go.Shelf
attribute [local go_sem] Oper.semAt_some Grows wide_fn
def byteN (a t : Nat) : Nat := a / 256 ^ t % 256
theorem byteN_lt (a t : Nat) : byteN a t < 256 := Nat.mod_lt _ (by decide)
theorem byteN_lim (a k i : Nat) (hk : k < 4) (hi : i < 8) : (lim a k / 256 ^ i) % 256 = (byteN a (8 * k + i) : Int) := by
 unfold byteN
 have h : ∀ x : Nat, ((x % 18446744073709551616 : Nat) : Int) / 256 ^ i % 256 = ((x / 256 ^ i % 256 : Nat) : Int) := by
  intro x
  have : i = 0 ∨ i = 1 ∨ i = 2 ∨ i = 3 ∨ i = 4 ∨ i = 5 ∨ i = 6 ∨ i = 7 := by omega
  rcases this with rfl | rfl | rfl | rfl | rfl | rfl | rfl | rfl <;> simp only [Nat.reducePow, Int.reducePow] <;> omega
 match k, hk with
 | 0, _ =>
  show ((a % 18446744073709551616 : Nat) : Int) / 256 ^ i % 256 = _
  rw [h a, Nat.mul_zero, Nat.zero_add]
 | 1, _ =>
  show ((a / 18446744073709551616 % 18446744073709551616 : Nat) : Int) / 256 ^ i % 256 = _
  rw [h, show (18446744073709551616 : Nat) = 256 ^ (8 * 1) by decide, Nat.div_div_eq_div_mul, ← Nat.pow_add]
 | 2, _ =>
  show ((a / 340282366920938463463374607431768211456 % 18446744073709551616 : Nat) : Int) / 256 ^ i % 256 = _
  rw [h, show (340282366920938463463374607431768211456 : Nat) = 256 ^ (8 * 2) by decide, Nat.div_div_eq_div_mul, ← Nat.pow_add]
 | 3, _ =>
  show ((a / 6277101735386680763835789423207666416102355444464034512896 % 18446744073709551616 : Nat) : Int) / 256 ^ i % 256 = _
  rw [h, show (6277101735386680763835789423207666416102355444464034512896 : Nat) = 256 ^ (8 * 3) by decide, Nat.div_div_eq_div_mul, ← Nat.pow_add]
def outAt (a m j : Nat) : Value := if 32 - m ≤ j then .int .u8 (byteN a (31 - j) : Int) else .int .u8 0
theorem outAt_succ (a m : Nat) (hm : m < 32) : (fun j => if j = 31 - m then Value.int .u8 (byteN a m : Int) else outAt a m j) = fun j => if j < 32 then outAt a (m + 1) j else outAt a m j := by
 funext j
 unfold outAt
 by_cases h : j = 31 - m
 ·subst h
  rw [if_pos rfl, if_pos (by omega), if_pos (by omega), show 31 - (31 - m) = m by omega]
 ·rw [if_neg h]
  by_cases h2 : j < 32
  ·rw [if_pos h2]
   by_cases h3 : 32 - m ≤ j
   ·rw [if_pos h3, if_pos (by omega)]
   ·rw [if_neg h3, if_neg (by omega)]
  ·rw [if_neg h2]
def bytesOf (a : Nat) : ByteArray := strOfNums ((List.range 32).map fun j => (byteN a (31 - j) : Int))
def BytSt (w : World) (a m : Nat) (W : World) : Prop :=
 (W.rowIs (w.heap.size + 1) 138 32 (outAt a m) ∧ Boxed W (w.heap.size + 1 + 1) 3 (.int .i64 ((32 - m : Nat) : Int)) ∧ Arr4 W w.heap.size 28 (lim a) ∧ Boxed W (w.heap.size + 1 + 1 + 1) 158 (.pointer (some ⟨w.heap.size, 0, none⟩))) ∧ Below w.heap.size w W
theorem rowIs_own {β : Type} (B : Nat) (t : TypeId) (n : Nat) (f : β → Nat → Value) : Own (fun s W => World.rowIs W B t n (f s)) := fun s X Y row hs hg hrow =>
 hs.of_block (hg.block B hs.lt (fun e' => by
  obtain ⟨o, ho, hc⟩ := hrow B e'.symm
  obtain ⟨cs, h1, _⟩ := hs
  rw [h1] at ho
  cases ho
  cases hc))
theorem BytSt.own (w : World) (a B : Nat) (hB : w.heap.size ≤ B) : OwnFrom B (fun m W => BytSt w a m W) :=
 OwnFrom.and (Own.from (fun s X Y row hs hg hr => ⟨rowIs_own _ _ _ (fun m : Nat => outAt a m) s X Y row hs.1 hg hr, boxed_own _ _ (fun m : Nat => Value.int .i64 ((32 - m : Nat) : Int)) s X Y row hs.2.1 hg hr,
  Arr4.own _ _ (fun _ : Nat => _) s X Y row hs.2.2.1 hg hr, boxed_own _ _ (fun _ : Nat => _) s X Y row hs.2.2.2 hg hr⟩) _) (ownFrom_below (Nat.le_refl _) hB)
def partAt (a k : Nat) : Nat → Int
 | 0 => lim a k
 | i + 1 => partAt a k i / 256
theorem partAt_eq (a k : Nat) : ∀ i, partAt a k i = lim a k / 256 ^ i
 | 0 => by simp [partAt]
 | i + 1 => by
  show partAt a k i / 256 = _
  rw [partAt_eq a k i]
  obtain ⟨x, hx⟩ := Int.eq_ofNat_of_zero_le (lim_u64 a k).1
  rw [hx, Int.pow_succ]
  have h : ((x / 256 ^ i / 256 : Nat) : Int) = ((x / (256 ^ i * 256) : Nat) : Int) := by rw [Nat.div_div_eq_div_mul]
  simpa using h
theorem partAt_u64 (a k i : Nat) : U64 (partAt a k i) := by
 rw [partAt_eq]
 have h := lim_u64 a k
 unfold U64 at *
 exact ⟨Int.ediv_nonneg h.1 (Int.pow_nonneg (by decide)), Int.lt_of_le_of_lt (Int.ediv_le_self _ h.1) h.2⟩
theorem partAt_byte (a k i : Nat) (hk : k < 4) (hi : i < 8) : IntKind.u8.wrap (partAt a k i) = (byteN a (8 * k + i) : Int) := by
 have h := byteN_lim a k i hk hi
 rw [← partAt_eq] at h
 rw [← h]
 rfl
theorem bytes_ret (a : Nat) (_ha : W256 a) : Ret Tryz.prog 102 #[wv a] (.string (bytesOf a)) := by
 intro w
 unfold wv
 have h1 : 1 ≤ 4 := by omega
 refine (callsIn_wide (n := 4)).1 ?_
 refine callsIn_of_wp_marks Tryz.func102 rfl trivial ?_ rfl
 simp only [Tryz.ntmps102, List.size_toArray, List.length_cons, List.length_nil, Nat.reduceAdd, Nat.reduceSub, Array.replicate_succ, Array.replicate_zero, List.push_toArray, List.append_toArray, List.nil_append, List.cons_append]
 gi_wp2_with (gi_at_call 128; refine (callsIn_free free_wide (parts_any _ _)).mono ?_; rintro e w' ⟨rfl, rfl⟩)
 obtain ⟨W0, hW0⟩ : ∃ W0, ((((w.alloc (.cells #[.int .u64 (lim a 0), .int .u64 (lim a 1), .int .u64 (lim a 2), .int .u64 (lim a 3)] 28)).alloc (.cells #[.int .u8 0, .int .u8 0, .int .u8 0, .int .u8 0, .int .u8 0, .int .u8 0, .int .u8 0, .int .u8 0, .int .u8 0, .int .u8 0, .int .u8 0, .int .u8 0, .int .u8 0, .int .u8 0, .int .u8 0, .int .u8 0, .int .u8 0, .int .u8 0, .int .u8 0, .int .u8 0, .int .u8 0, .int .u8 0, .int .u8 0, .int .u8 0, .int .u8 0, .int .u8 0, .int .u8 0, .int .u8 0, .int .u8 0, .int .u8 0, .int .u8 0, .int .u8 0] 138)).alloc (.cells #[.int .i64 32] 3)).alloc (.cells #[.pointer (some ⟨w.heap.size, 0, none⟩)] 158)) = W0 := ⟨_, rfl⟩
 have hsz : W0.heap.size = w.heap.size + 4 := by rw [← hW0]; simp
 have hJ0 : BytSt w a 0 W0 := by
  rw [← hW0]
  refine ⟨⟨?_, ?_, ?_, ?_⟩, ((((Below.refl _ w).alloc (Nat.le_refl _) _).alloc (by simp) _).alloc (by simp; omega) _).alloc (by simp; omega) _⟩
  ·have h := World.rowIs_alloc (w.alloc (.cells #[.int .u64 (lim a 0), .int .u64 (lim a 1), .int .u64 (lim a 2), .int .u64 (lim a 3)] 28)) #[.int .u8 0, .int .u8 0, .int .u8 0, .int .u8 0, .int .u8 0, .int .u8 0, .int .u8 0, .int .u8 0, .int .u8 0, .int .u8 0, .int .u8 0, .int .u8 0, .int .u8 0, .int .u8 0, .int .u8 0, .int .u8 0, .int .u8 0, .int .u8 0, .int .u8 0, .int .u8 0, .int .u8 0, .int .u8 0, .int .u8 0, .int .u8 0, .int .u8 0, .int .u8 0, .int .u8 0, .int .u8 0, .int .u8 0, .int .u8 0, .int .u8 0, .int .u8 0] 138 (outAt a 0) (fun i hi => by
    match i, hi with
    | 0, _ => rfl
    | 1, _ => rfl
    | 2, _ => rfl
    | 3, _ => rfl
    | 4, _ => rfl
    | 5, _ => rfl
    | 6, _ => rfl
    | 7, _ => rfl
    | 8, _ => rfl
    | 9, _ => rfl
    | 10, _ => rfl
    | 11, _ => rfl
    | 12, _ => rfl
    | 13, _ => rfl
    | 14, _ => rfl
    | 15, _ => rfl
    | 16, _ => rfl
    | 17, _ => rfl
    | 18, _ => rfl
    | 19, _ => rfl
    | 20, _ => rfl
    | 21, _ => rfl
    | 22, _ => rfl
    | 23, _ => rfl
    | 24, _ => rfl
    | 25, _ => rfl
    | 26, _ => rfl
    | 27, _ => rfl
    | 28, _ => rfl
    | 29, _ => rfl
    | 30, _ => rfl
    | 31, _ => rfl
    | n + 32, h => exact absurd h (by show ¬ (n + 32 < 32); omega))
   rw [World.size_alloc] at h
   exact (h.alloc _).alloc _
  ·have h := Boxed.new ((w.alloc (.cells #[.int .u64 (lim a 0), .int .u64 (lim a 1), .int .u64 (lim a 2), .int .u64 (lim a 3)] 28)).alloc (.cells #[.int .u8 0, .int .u8 0, .int .u8 0, .int .u8 0, .int .u8 0, .int .u8 0, .int .u8 0, .int .u8 0, .int .u8 0, .int .u8 0, .int .u8 0, .int .u8 0, .int .u8 0, .int .u8 0, .int .u8 0, .int .u8 0, .int .u8 0, .int .u8 0, .int .u8 0, .int .u8 0, .int .u8 0, .int .u8 0, .int .u8 0, .int .u8 0, .int .u8 0, .int .u8 0, .int .u8 0, .int .u8 0, .int .u8 0, .int .u8 0, .int .u8 0, .int .u8 0] 138)) 3 (.int .i64 32)
   rw [World.size_alloc, World.size_alloc] at h
   exact h.alloc _
  ·exact (((Arr4.word w _ a).alloc _).alloc _).alloc _
  ·have h := Boxed.new (((w.alloc (.cells #[.int .u64 (lim a 0), .int .u64 (lim a 1), .int .u64 (lim a 2), .int .u64 (lim a 3)] 28)).alloc (.cells #[.int .u8 0, .int .u8 0, .int .u8 0, .int .u8 0, .int .u8 0, .int .u8 0, .int .u8 0, .int .u8 0, .int .u8 0, .int .u8 0, .int .u8 0, .int .u8 0, .int .u8 0, .int .u8 0, .int .u8 0, .int .u8 0, .int .u8 0, .int .u8 0, .int .u8 0, .int .u8 0, .int .u8 0, .int .u8 0, .int .u8 0, .int .u8 0, .int .u8 0, .int .u8 0, .int .u8 0, .int .u8 0, .int .u8 0, .int .u8 0, .int .u8 0, .int .u8 0] 138)).alloc (.cells #[.int .i64 32] 3)) 158 (.pointer (some ⟨w.heap.size, 0, none⟩))
   simpa using h
 rw [hW0]
 clear hW0
 refine wpIn_rangeFunc_N1 rfl h1 (gf := 152) (lb := #[.pointer (some ⟨w.heap.size + 1 + 1 + 1, 0, none⟩)]) rfl trivial (enters_of Tryz.func152 (by kernel_rfl) rfl)
  (parts_seq _ (by omega) _ _ (lim a) W0 (by omega) (by omega) hJ0.1.2.2.2.cell (fun j hj => hJ0.1.2.2.1.cell hj)) KeepsAt.trans (KeepsAt.refl _) (KeepsAt.b (by simp; omega)) (fun _ _ => rfl)
  (fun k W => BytSt w a (8 * k) W)
  (fun _ _ _ => False)
  (fun s => BytSt.own w a _ (by omega) (8 * s))
  (fun _ _ _ _ _ hs _ _ => hs)
  hJ0
  (fun k => { tmps := #[.agg #[.int .u64 (lim a 0), .int .u64 (lim a 1), .int .u64 (lim a 2), .int .u64 (lim a 3)], .pointer (some ⟨w.heap.size, 0, none⟩), .string { data := #[] }, .pointer (some ⟨w.heap.size + 1, 0, none⟩), .pointer (some ⟨w.heap.size + 1 + 1, 0, none⟩), undef, .int .u64 (lim a k), .func (.func 152) #[] #[.pointer (some ⟨w.heap.size + 1 + 1 + 1, 0, none⟩)], .int .i64 (k : Int), .int .u64 (lim a k), undef, undef, undef, undef, undef, undef, undef, undef, undef, undef, undef, undef, undef], defers := [] }) ?assign ?body ?done ?stop
 case assign =>
  intro l k W K _ hK
  gi_wp2
  exact hK
 case body =>
  rintro l k W _ hk4 hst
  gi_wp2
  gi_loopw [6, 10] (fun p i wr => ∃ m : Nat, m ≤ 8 ∧ i = .int .i64 m ∧ p = .int .u64 (partAt a k m) ∧ BytSt w a (8 * k + m) wr ∧ KeepsAt [w.heap.size, w.heap.size + 1 + 1 + 1] W wr ∧ KeepsFrom W0.heap.size W wr) (fun p i _ => 8 - (intOf i).toNat)
  case atStart => exact ⟨0, by omega, rfl, rfl, hst, KeepsAt.refl _ _, KeepsFrom.refl _ _⟩
  case round =>
   obtain ⟨m, hm, rfl, rfl, ⟨⟨b1, b2, b3, b4⟩, hB⟩, hKa, hKf⟩ := hrel
   have hl1 := b1.lt
   have hl4 := b4.lt
   by_cases hlt : m < 8
   ·have hu := partAt_u64 a k m
    obtain ⟨hu0, hu1⟩ := hu
    have hby := Lib.hid (partAt_byte a k m hk4 hlt)
    have hps : Hid (partAt a k (m + 1) = partAt a k m / 256) := rfl
    obtain ⟨q, hq⟩ : ∃ q : Nat, q + (8 * k + m) = 31 := ⟨31 - (8 * k + m), by omega⟩
    have c2 := b2.cell
    have f2 := b2.frozen
    rw [show ((32 - (8 * k + m) : Nat) : Int) = (q : Int) + 1 by omega] at c2
    have c1 : wr.cell? ⟨w.heap.size + 1, q, none⟩ = some (outAt a (8 * k + m) q) := b1.cell (by omega)
    have f1 := b1.frozen q
    have hq0 : (0 : Int) ≤ (q : Int) := by omega
    have hq1 : (q : Int) < 32 := by omega
    have hm8 : (m : Int) < 8 := by omega
    have hst' : BytSt w a (8 * k + (m + 1)) ((wr.setCell ⟨w.heap.size + 1 + 1, 0, none⟩ (.int .i64 (q : Int))).setCell ⟨w.heap.size + 1, q, none⟩ (.int .u8 (IntKind.u8.wrap (partAt a k m)))) := by
     refine ⟨⟨?_, ?_, ?_, ?_⟩, (hB.setCell (p := ⟨w.heap.size + 1 + 1, 0, none⟩) (by simp; omega) _).setCell (p := ⟨w.heap.size + 1, q, none⟩) (by simp) _⟩
     ·have h := (b1.setOther (a := ⟨w.heap.size + 1 + 1, 0, none⟩) (by simp) (.int .i64 (q : Int))).set q (.int .u8 (IntKind.u8.wrap (partAt a k m)))
      rw [hby.out, show q = 31 - (8 * k + m) by omega, outAt_succ a (8 * k + m) (by omega)] at h
      rw [hby.out, show q = 31 - (8 * k + m) by omega]
      exact h.congr (fun i hi => (if_pos hi).trans rfl)
     ·have h := Boxed.away (Boxed.set (.int .i64 (q : Int)) b2) (p := ⟨w.heap.size + 1, q, none⟩) (by simp) (.int .u8 (IntKind.u8.wrap (partAt a k m)))
      rw [show ((32 - (8 * k + (m + 1)) : Nat) : Int) = (q : Int) by omega]
      exact h
     ·exact Arr4.other (Arr4.other b3 (by simp; omega) _) (by simp) _
     ·exact Boxed.away (Boxed.away b4 (by simp) _) (by simp; omega) _
    have HS := Lib.hid hst'
    have HB := Lib.hid hB
    clear hst' b1 b2 b3 b4 hst hB hJ0 hq
    gi_wp2
    go_roundw
    case rel => exact ⟨m + 1, by omega, by simp, by rw [hps.out], HS.out, (hKa.setCell (by first | (simp; done) | (simp; omega)) _).setCell (by first | (simp; done) | (simp; omega)) _, (hKf.trans ((KeepsOthers.setCell _ _ _).from _)).trans ((KeepsOthers.setCell _ _ _).from _)⟩
    case measure => simp [intOf]; omega
   ·obtain rfl : m = 8 := by omega
    gi_wp2
    exact ⟨hKf, hKa, ⟨⟨b1, b2, b3, b4⟩, hB⟩⟩
 case done =>
  rintro D W hD ⟨⟨b1, b2, b3, b4⟩, hB⟩ hK
  have hcv := run_convert_bytes_arg (P := Tryz.prog) W 97 5 Tryz.underlying97 Tryz.underlying5 (w.heap.size + 1) 0 32 32 ((List.range 32).map fun j => (byteN a (31 - j) : Int)) (by simp) (fun i hi => by
   have h := b1.cell hi
   rw [Nat.zero_add, h]
   unfold outAt
   rw [if_pos (by omega)]
   simp [hi]) 9 Tryz.underlying9
  have HK := Lib.hid hK
  have HB := Lib.hid hB
  have e : strOfNums ((List.range 32).map fun j => (byteN a (31 - j) : Int)) = bytesOf a := rfl
  rw [e] at hcv
  clear e b1 b2 b3 b4 hK hB hJ0
  gi_wp2
  refine ⟨by simp, .inl ⟨_, _, rfl, run_takeDeferred HK.out, ?_⟩⟩
  exact ⟨_, results_tmp rfl _ _ _, rfl, HB.out.trans (belowK_b (w := w) (Nat.le_refl _) _ D _ _ (by omega) HK.out rfl rfl)⟩
 case stop =>
  rintro D c k W _ _ h _
  exact h.elim

end
section
open Go Go.RowKit Go.Shelf
attribute [local go_sem] Oper.semAt_some wide_fn
end
section
open Go Go.RowKit Go.Shelf
attribute [local go_sem] Oper.semAt_some Grows wide_fn
def tpHi (x y p q : Int) : Int := (x * y + p + q) / 18446744073709551616
def rc (z : Nat → Int) (f : Int) (m : Nat → Int) : Nat → Int
 | 0 => 0
 | k + 1 => tpHi (z k) f (m k) (rc z f m k)
def sc (z : Nat → Int) (f p : Int) : Nat → Int
 | 0 => p
 | k + 1 => tpHi (z k) f (sc z f p k) 0

def octVal : Nat → List UInt8 → Nat
 | n, [] => n
 | n, c :: r => octVal (n * 256 + c.toNat) r
def badDigits (d : List UInt8) : Prop := d = [] ∨ (d.head? = some 48 ∧ d ≠ [48])
instance (d : List UInt8) : Decidable (badDigits d) := by unfold badDigits; infer_instance

theorem infoB : (Tryz.prog.info? 5).map (fun i => (i.zero, i.size, i.bytes)) = some (some (.int .u8 0), 1, 1) := by kernel_rfl
theorem owns_below {w w' : World} {base : Nat} {e : TypeId} {size : Nat} {v : Value} {n : Nat} {xs : List Value} (h : w.ownsRow base e size v n xs) (hb : Below w.heap.size w w') : w'.ownsRow base e size v n xs :=
 h.kept (grown_of_below hb none) (by cases hv : v.ownBlock <;> simp)
def byteL (a : Nat) : List Nat := (List.range 32).map fun j => byteN a (31 - j)
theorem bytesOf_list (a : Nat) : (bytesOf a).data.toList = (byteL a).map UInt8.ofNat := by
 unfold bytesOf strOfNums byteL
 simp [Function.comp_def]
theorem bytesOf_size (a : Nat) : (bytesOf a).size = 32 := by
 have : (bytesOf a).data.toList.length = 32 := by rw [bytesOf_list]; simp [byteL]
 simpa using this
end
section
open Go Go.RowKit
theorem byte_step (a t : Nat) : a / 256 ^ (t + 1) * 256 + byteN a t = a / 256 ^ t := by
 unfold byteN
 rw [Nat.pow_succ, ← Nat.div_div_eq_div_mul]
 omega
theorem byteL_take (a : Nat) : ∀ k, k ≤ 32 → octVal 0 (((List.range k).map fun j => byteN a (31 - j)).map UInt8.ofNat) = a / 256 ^ (32 - k) % 256 ^ k
 | 0, _ => by simp [octVal, Nat.mod_one]
 | k + 1, hk => by
  rw [List.range_succ, List.map_append, List.map_append]
  have h : ∀ (l : List UInt8) (n : Nat) (c : UInt8), octVal n (l ++ [c]) = octVal n l * 256 + c.toNat := by
   intro l
   induction l with
   | nil => intro n c; rfl
   | cons x r ih => intro n c; exact ih _ c
  simp only [List.map_cons, List.map_nil]
  rw [h, byteL_take a k (by omega), UInt8.toNat_ofNat', Nat.mod_eq_of_lt (show byteN a (31 - k) < 2 ^ 8 from byteN_lt a _)]
  have e1 : 32 - k = (31 - k) + 1 := by omega
  have e2 : 32 - (k + 1) = 31 - k := by omega
  have hs := byte_step a (31 - k)
  rw [e1, e2]
  rw [← hs]
  clear hs h e1 e2
  generalize a / 256 ^ (31 - k + 1) = q
  have hb := byteN_lt a (31 - k)
  generalize byteN a (31 - k) = b at *
  rw [Nat.pow_succ, Nat.mul_comm (256 ^ k) 256, Nat.mod_mul]
  have e3 : (q * 256 + b) % 256 = b := by omega
  have e4 : (q * 256 + b) / 256 = q := by omega
  rw [e3, e4]
  exact (Nat.add_comm _ _).trans (congrArg (b + ·) (Nat.mul_comm _ _)) |>.symm ▸ rfl
theorem octVal_bytes (a : Nat) (ha : W256 a) : octVal 0 ((byteL a).map UInt8.ofNat) = a := by
 have h := byteL_take a 32 (Nat.le_refl _)
 have e : (256 : Nat) ^ 32 = 115792089237316195423570985008687907853269984665640564039457584007913129639936 := by decide
 rw [e, Nat.sub_self, Nat.pow_zero, Nat.div_one, Nat.mod_eq_of_lt ha] at h
 exact h
end
section
open Go Go.RowKit
attribute [local go_sem] Oper.semAt_some Grows wide_fn
theorem val256_oct : ∀ (l : List UInt8) (n : Nat), val256 n l = octVal n l
 | [], _ => rfl
 | _ :: r, n => val256_oct r _
theorem noNought_val : ∀ (l : List UInt8), val256 0 (noNought l) = val256 0 l
 | [] => rfl
 | c :: r => by
  unfold noNought
  by_cases h : c = 0
  ·rw [if_pos h, noNought_val r, h]; rfl
  ·rw [if_neg h]
theorem noNought_bare : ∀ (l : List UInt8), Bare (noNought l)
 | [] => by intro c r h; cases h
 | c :: r => by
  unfold noNought
  by_cases h : c = 0
  ·rw [if_pos h]; exact noNought_bare r
  ·rw [if_neg h]
   intro x y e
   injection e with e1 _
   rw [← e1]; exact h
theorem noNought_digs (l : List UInt8) : noNought l = digs (val256 0 l) := by
 rw [← noNought_val l, digs_val _ _ rfl (noNought_bare l)]
theorem digs_bytes (a : Nat) (ha : W256 a) : noNought (bytesOf a).data.toList = digs a := by
 rw [noNought_digs, bytesOf_list, val256_oct, octVal_bytes a ha]
theorem noNought_drop {l : List UInt8} {k : Nat} {c : UInt8} (h : l[k]? = some c) (hc : c = 0) : noNought (l.drop k) = noNought (l.drop (k + 1)) := by
 obtain ⟨hl, he⟩ := List.getElem?_eq_some_iff.1 h
 rw [List.drop_eq_getElem_cons hl, noNought, he, if_pos hc]
theorem noNought_stop {l : List UInt8} {k : Nat} {c : UInt8} (h : l[k]? = some c) (hc : c ≠ 0) : noNought (l.drop k) = l.drop k := by
 obtain ⟨hl, he⟩ := List.getElem?_eq_some_iff.1 h
 rw [List.drop_eq_getElem_cons hl, noNought, he, if_neg hc]
abbrev strV (l : List UInt8) : Value := .string ⟨l.toArray⟩
theorem trimByte_ret (s : ByteArray) (w : World) : Calls Tryz.prog 124 #[.string s, .int .u8 0] w fun e w' => e = .returned (strV (noNought s.data.toList)) ∧ w = w' := by
 go_enter Tryz.func124, Tryz.ntmps124
 go_wp2
 go_loop [0] (fun v => ∃ k : Nat, k ≤ s.size ∧ v = .string ⟨(s.data.toList.drop k).toArray⟩ ∧ noNought (s.data.toList.drop k) = noNought s.data.toList) (fun v => Lib.strSize v)
 case atStart => exact ⟨0, Nat.zero_le _, by simp, by simp⟩
 case round =>
  obtain ⟨k, hk, rfl, hc⟩ := hrel
  have hts : (⟨(s.data.toList.drop k).toArray⟩ : ByteArray).size = s.size - k := by rw [Lib.size_mk, List.length_drop, ← Lib.size_eq]
  have hb0 : ∀ h, s.data.toList[k]? = some ((⟨(s.data.toList.drop k).toArray⟩ : ByteArray)[0]'h) := by
   intro h
   rw [← Lib.getElem_mk (s.data.toList.drop k) 0 h, List.getElem?_drop]
   rfl
  have hx1 : (⟨(s.data.toList.drop k).toArray⟩ : ByteArray).extract 1 (s.size - k) = ⟨(s.data.toList.drop (k + 1)).toArray⟩ := by
   rw [Lib.extract_mk, List.drop_drop, List.take_of_length_le (by simp; omega)]
  have hK := hid hc
  clear hc
  generalize ht : (⟨(s.data.toList.drop k).toArray⟩ : ByteArray) = t at hts hb0 hx1 ⊢
  have hK3 := hid ht
  clear ht
  have hkl := hid (show k ≤ s.data.toList.length by rw [← Lib.size_eq]; exact hk)
  by_cases h0 : 0 < t.size
  ·have hbk := hid (hb0 h0)
   clear hb0
   by_cases heq : t[0]'h0 = 0
   ·have heq' : ((t[0]'h0).toNat : Int) = 0 := by rw [heq]; rfl
    have hz := hid heq
    clear heq
    go_wp2
    refine ⟨⟨k + 1, by omega, rfl, ?_⟩, ?_⟩
    ·rw [← noNought_drop hbk.out hz.out, hK.out]
    ·simp only [Lib.strSize]
     rw [← hx1, ByteArray.size_extract]
     omega
   ·have heq' : ¬ ((t[0]'h0).toNat : Int) = 0 := fun h => heq (UInt8.toNat_inj.1 (by show (t[0]'h0).toNat = 0; omega))
    have hz := hid heq
    clear heq
    go_wp2
    go_ret
    refine ⟨?_, rfl⟩
    have := noNought_stop hbk.out hz.out
    rw [hK.out] at this
    rw [this]
    show Ending.returned (.string t) = _
    rw [← hK3.out]
  ·have hz : t.size = 0 := by omega
   have hE := hid (show noNought s.data.toList = s.data.toList.drop k by
    rw [← hK.out]
    have : s.data.toList.drop k = [] := List.drop_eq_nil_of_le (by rw [← Lib.size_eq]; omega)
    rw [this]; rfl)
   clear hb0
   go_wp2
   go_ret
   refine ⟨?_, rfl⟩
   rw [hE.out]
   show Ending.returned (.string t) = _
   rw [← hK3.out]
theorem trim_ret (s : ByteArray) (w : World) (hs : s.size ≤ 140737488355328) : Calls Tryz.prog 101 #[.string s, .string ⟨#[0]⟩] w fun e w' => e = .returned (strV (noNought s.data.toList)) ∧ w = w' := by
 have HT := hid (trimByte_ret s)
 by_cases h0 : s = ⟨#[]⟩
 ·subst h0
  go_enter Tryz.func101, Tryz.ntmps101
  go_wp2_with fail
  go_ret
  exact ⟨rfl, rfl⟩
 ·have hbe : (s.toList == []) = false := by
   have e : (ByteArray.mk #[]).toList = [] := by rw [ByteArray.toList_eq]
   rcases hx : (s.toList == []) with _ | _
   ·rfl
   ·have e2 := eq_of_beq hx
    rw [← e, ByteArray.toList_eq, ByteArray.toList_eq] at e2
    exact absurd (ByteArray.ext (Array.toList_inj.1 e2)) h0
  replace h0 := hid h0
  go_enter Tryz.func101, Tryz.ntmps101
  go_wp2_with fail
  refine (HT.out _).mono ?_
  rintro e w1 ⟨rfl, rfl⟩
  go_wp2_with fail
  go_ret
  exact ⟨rfl, rfl⟩
abbrev txtV (l : List UInt8) : Value := .agg #[.bool false, strV l, .slice none 0 0]
theorem text_any (s : ByteArray) (w : World) : Calls Tryz.prog 71 #[.string s] w fun e w' => e = .returned (.agg #[.bool false, .string s, .slice none 0 0]) ∧ Below w.heap.size w w' := by
 have LX := Has.new w 78 #[.bool false, .string s, .slice none 0 0]
 have Q := hid (newA w (.cells #[.bool false, .string s, .slice none 0 0] 78))
 have k1 := LX.cell 0 _ rfl
 have k2 := LX.cell 1 _ rfl
 have k3 := LX.cell 2 _ rfl
 have NX := Has.new w 78 #[.bool false, .string ⟨#[]⟩, .slice none 0 0]
 have f0 := NX.frozen 0
 have f1 := NX.frozen 1
 have f2 := NX.frozen 2
 have x0 := NX.cell 0 _ rfl
 have x1 := NX.cell 1 _ rfl
 have x2 := NX.cell 2 _ rfl
 replace NX := hid NX
 replace LX := hid LX
 go_enter Tryz.func71, Tryz.ntmps71
 go_wp2_with fail
 exact bodyPost_ret (v := .agg #[.bool false, .string s, .slice none 0 0]) (by simp [results, Tryz.results71, go_sem, k1, k2, k3]) rfl ⟨rfl, Q.out⟩
theorem number_ret (a : Nat) (ha : W256 a) : Ret Tryz.prog 72 #[wv a] (txtV (digs a)) := by
 intro w
 have HB := hid (bytes_ret a ha)
 have HT := hid (show ∀ w, Calls Tryz.prog 101 #[.string (bytesOf a), .string ⟨#[0]⟩] w fun e w' => e = .returned (strV (digs a)) ∧ w = w' from fun w => by
  have := trim_ret (bytesOf a) w (by rw [bytesOf_size]; decide)
  rwa [digs_bytes a ha] at this)
 have HX := hid (text_any ⟨(digs a).toArray⟩)
 have hmx : Tryz.prog.follows .mixedOrders = true := by kernel_rfl
 unfold wv at HB ⊢
 generalize lim a 0 = l0 at *
 generalize lim a 1 = l1 at *
 generalize lim a 2 = l2 at *
 generalize lim a 3 = l3 at *
 generalize bytesOf a = bs at *
 generalize digs a = ds at *
 have LX := (Has.new w 28 #[.int .u64 l0, .int .u64 l1, .int .u64 l2, .int .u64 l3]).alloc (.cells #[.bool false, .string ⟨#[]⟩, .slice none 0 0] 78)
 have NX := Has.new (w.alloc (.cells #[.int .u64 l0, .int .u64 l1, .int .u64 l2, .int .u64 l3] 28)) 78 #[.bool false, .string ⟨#[]⟩, .slice none 0 0]
 have Q := (newA w (.cells #[.int .u64 l0, .int .u64 l1, .int .u64 l2, .int .u64 l3] 28)).alloc (by simp) (.cells #[.bool false, .string ⟨#[]⟩, .slice none 0 0] 78)
 simp only [World.size_alloc] at NX
 obtain ⟨W1, hW1⟩ : ∃ W1, (w.alloc (.cells #[.int .u64 l0, .int .u64 l1, .int .u64 l2, .int .u64 l3] 28)).alloc (.cells #[.bool false, .string ⟨#[]⟩, .slice none 0 0] 78) = W1 := ⟨_, rfl⟩
 rw [hW1] at LX NX Q
 have k0 := LX.cell 0 _ rfl
 have k1 := LX.cell 1 _ rfl
 have k2 := LX.cell 2 _ rfl
 have k3 := LX.cell 3 _ rfl
 replace LX := hid LX
 replace Q := hid Q
 replace NX := hid NX
 go_enter Tryz.func72, Tryz.ntmps72
 go_wp2_with fail
 refine (HB.out _).mono ?_
 rintro _ W2 ⟨rfl, q⟩
 replace NX := hid (NX.out.later q)
 replace Q := hid (Q.out.trans (q.mono Q.out.size))
 clear k0 k1 k2 k3 LX q hW1
 go_wp2_with fail
 refine (HT.out _).mono ?_
 rintro _ W3 ⟨rfl, rfl⟩
 go_wp2_with fail
 refine (HX.out _).mono ?_
 rintro _ W4 ⟨rfl, q⟩
 replace NX := NX.out.later q
 replace Q := hid (Q.out.trans (q.mono Q.out.size))
 have f0 := NX.frozen 0
 have f1 := NX.frozen 1
 have f2 := NX.frozen 2
 have x0 := NX.cell 0 _ rfl
 have x1 := NX.cell 1 _ rfl
 have x2 := NX.cell 2 _ rfl
 replace NX := hid NX
 clear q
 go_wp2_with fail
 have S := ((NX.out.set 0 (.bool false)).set 1 (strV ds)).set 2 (.slice none 0 0)
 have y0 := S.cell 0 _ rfl
 have y1 := S.cell 1 _ rfl
 have y2 := S.cell 2 _ rfl
 exact bodyPost_ret (v := txtV ds) (by simp [results, Tryz.results72, go_sem, y0, y1, y2]) rfl ⟨rfl, ((Q.out.setCell (by simp) _).setCell (by simp) _).setCell (by simp) _⟩
theorem itemField1 (l : Bool) (s : ByteArray) (a : Option Addr) (n c : Nat) (W : World) : (Instr.field 78 (.agg #[.bool l, .string s, .slice a n c]) 1).run Tryz.prog W = .ok (.string s) W := by
 have u := Tryz.underlying78
 have a3 := Tryz.isAgg9
 unfold Instr.field
 simp only [Sem.run_bind, run_underlying u, Result.andThen_ok]
 simp [go_sem, part, asAgg, a3]
theorem bare_any (l : List UInt8) (hl : l.length ≤ 140737488355328) (w : World) : Calls Tryz.prog 123 #[strV l] w fun e w' => e = .returned (.bool (bareB l)) ∧ w = w' := by
 match l with
 | [] =>
  go_enter Tryz.func123, Tryz.ntmps123
  go_wp2_with fail
  go_ret
  exact ⟨rfl, rfl⟩
 | [c] =>
  have hs : (⟨#[c]⟩ : ByteArray).size = 1 := rfl
  have hv : ∀ h, ((⟨#[c]⟩ : ByteArray)[0]'h) = c := fun h => rfl
  have hB : Hid (bareB [c] = decide (c.toNat < 128)) := hid rfl
  have hc := c.toNat_lt
  by_cases h8 : c.toNat < 128
  ·have h8' : ((c.toNat : Nat) : Int) < 128 := by omega
   have hR := hid (show bareB [c] = true by rw [hB.out]; simpa using h8)
   clear hB hc
   replace h8 := hid h8
   show Calls _ _ #[.string ⟨#[c]⟩] _ _
   generalize (⟨#[c]⟩ : ByteArray) = s at *
   go_enter Tryz.func123, Tryz.ntmps123
   go_wp2_with fail
   go_ret
   exact ⟨by rw [hR.out]; rfl, rfl⟩
  ·have h8' : ¬ ((c.toNat : Nat) : Int) < 128 := by omega
   have hR := hid (show bareB [c] = false by rw [hB.out]; simpa using h8)
   clear hB hc
   replace h8 := hid h8
   show Calls _ _ #[.string ⟨#[c]⟩] _ _
   generalize (⟨#[c]⟩ : ByteArray) = s at *
   go_enter Tryz.func123, Tryz.ntmps123
   go_wp2_with fail
   go_ret
   exact ⟨by rw [hR.out]; rfl, rfl⟩
 | c :: d :: r =>
  have hs : (⟨(c :: d :: r).toArray⟩ : ByteArray).size = r.length + 2 := rfl
  have hR := hid (show bareB (c :: d :: r) = false from rfl)
  have hl2 : r.length ≤ 140737488355328 := by simp at hl; omega
  clear hl
  show Calls _ _ #[.string ⟨(c :: d :: r).toArray⟩] _ _
  generalize (⟨(c :: d :: r).toArray⟩ : ByteArray) = s at *
  have hs1 : ¬ ((s.size : Nat) : Int) = 1 := by omega
  replace hs := hid hs
  go_enter Tryz.func123, Tryz.ntmps123
  go_wp2_with fail
  go_ret
  exact ⟨by rw [hR.out]; rfl, rfl⟩
theorem headOf_short (kind n : Nat) (hk : kind = 128 ∨ kind = 192) (hn : n ≤ 55) : Ret Tryz.prog 122 #[.int .i64 (kind : Int), .int .i64 (n : Int)] (strV (headL kind n)) := by
 intro w
 have hS := hid (show headL kind n = [UInt8.ofNat (kind + n)] from if_pos hn)
 have hnI : (n : Int) ≤ 55 := by omega
 have hk1 : (kind : Int) ≤ 192 := by omega
 have hk0 : (0 : Int) ≤ (kind : Int) := by omega
 have hn0 : (0 : Int) ≤ (n : Int) := by omega
 obtain ⟨x, hx⟩ : ∃ x : Nat, kind + n = x := ⟨_, rfl⟩
 rw [hx] at hS
 have hxI : (kind : Int) + (n : Int) = (x : Int) := by omega
 have LX := Has.new w 5 #[.int .u8 (x : Int)]
 have hcv := run_convert_bytes_arg (P := Tryz.prog) (w.alloc (.cells #[.int .u8 (x : Int)] 5)) 97 5 Tryz.underlying97 Tryz.underlying5 w.heap.size 0 1 1 [(x : Int)] (by simp) (fun i hi => by
  obtain rfl : i = 0 := by omega
  exact LX.cell 0 _ rfl) 9 Tryz.underlying9
 have hst : strOfNums [(x : Int)] = ⟨(headL kind n).toArray⟩ := by
  rw [hS.out]; simp [strOfNums]
 rw [hst] at hcv
 rw [← hxI] at hcv
 have Q := hid (newA w (.cells #[.int .u8 ((kind : Int) + (n : Int))] 5))
 clear hst hS LX hx hxI
 generalize headL kind n = hl at *
 go_enter Tryz.func122, Tryz.ntmps122
 go_wp2_with fail
 go_ret
 exact ⟨rfl, Q.out⟩
theorem headOf_long (kind n : Nat) (hk : kind = 128 ∨ kind = 192) (hn : 55 < n) (hn2 : n ≤ 4611686018427387903) : Ret Tryz.prog 122 #[.int .i64 (kind : Int), .int .i64 (n : Int)] (strV (headL kind n)) := by
 intro w
 have hS := hid (show headL kind n = UInt8.ofNat (kind + 55 + (digs n).length) :: digs n from if_neg (by omega))
 have hdl : (digs n).length ≤ 8 := digs_length (k := 8) (by omega)
 have HO := of_ret (n : Int) (by unfold I64; omega)
 rw [show ofN (n : Int) = n by unfold ofN; rw [if_neg (by omega)]; omega] at HO
 have HN := hid (number_ret n (by unfold W256; omega))
 replace HO := hid HO
 have hnI : ¬ (n : Int) ≤ 55 := by omega
 have hnI2 : (n : Int) ≤ 4611686018427387903 := by omega
 have hk1 : (kind : Int) ≤ 192 := by omega
 have hk0 : (0 : Int) ≤ (kind : Int) := by omega
 obtain ⟨m, hm⟩ : ∃ m, (digs n).length = m := ⟨_, rfl⟩
 obtain ⟨x, hx⟩ : ∃ x : Nat, kind + 55 + m = x := ⟨_, rfl⟩
 have hxI : (kind : Int) + 55 + (m : Int) = (x : Int) := by omega
 have hmI : (m : Int) ≤ 8 := by omega
 have hm0 : (0 : Int) ≤ (m : Int) := by omega
 have hsz : (⟨(digs n).toArray⟩ : ByteArray).size = m := by rw [← hm]; rfl
 have hcv : ∀ A : World, ∀ dst, Tryz.prog.underlying dst = some .string → (convert 97 dst (.slice (some ⟨A.heap.size, 0, none⟩) 1 1)).run Tryz.prog (A.alloc (.cells #[.int .u8 ((kind : Int) + 55 + (m : Int))] 5)) = .ok (.string ⟨#[UInt8.ofNat (kind + 55 + m)]⟩) (A.alloc (.cells #[.int .u8 ((kind : Int) + 55 + (m : Int))] 5)) := fun A dst hd => by
  rw [hxI, hx]
  have := run_convert_bytes_arg (P := Tryz.prog) (A.alloc (.cells #[.int .u8 (x : Int)] 5)) 97 5 Tryz.underlying97 Tryz.underlying5 A.heap.size 0 1 1 [(x : Int)] (by simp) (fun i hi => by
   obtain rfl : i = 0 := by omega
   exact (Has.new A 5 #[.int .u8 (x : Int)]).cell 0 _ rfl) dst hd
  rw [this]; simp [strOfNums]
 have hst := hid (show (⟨#[UInt8.ofNat (kind + 55 + m)]⟩ : ByteArray) ++ ⟨(digs n).toArray⟩ = ⟨(headL kind n).toArray⟩ by
  rw [hS.out, hm]
  apply ByteArray.ext
  simp)
 clear hS hx hxI hdl hm
 have hb1 : (⟨#[UInt8.ofNat (kind + 55 + m)]⟩ : ByteArray).size = 1 := rfl
 generalize (⟨#[UInt8.ofNat (kind + 55 + m)]⟩ : ByteArray) = b1 at *
 unfold txtV strV at HN
 unfold strV
 generalize (⟨(headL kind n).toArray⟩ : ByteArray) = hl at *
 generalize (⟨(digs n).toArray⟩ : ByteArray) = sd at *
 replace hcv := hid hcv
 replace hn := hid hn
 go_enter Tryz.func122, Tryz.ntmps122
 go_wp2_with fail
 refine (HO.out _).mono ?_
 rintro _ W2 ⟨rfl, q⟩
 have Q := hid q
 clear q
 go_wp2_with fail
 refine (HN.out _).mono ?_
 rintro _ W3 ⟨rfl, q⟩
 have Q2 := Q.out.trans (q.mono Q.out.size)
 replace Q := hid (Q2.alloc Q2.size (.cells #[.int .u8 ((kind : Int) + 55 + (m : Int))] 5))
 have hc3 := hcv.out W3
 clear Q2
 have hf3 := itemField1 false sd none 0 0 W3
 clear q hcv
 go_wp2_with fail
 go_ret
 exact ⟨by rw [← hst.out]; rfl, Q.out⟩
theorem headOf_ret (kind n : Nat) (hk : kind = 128 ∨ kind = 192) (hn2 : n ≤ 4611686018427387903) : Ret Tryz.prog 122 #[.int .i64 (kind : Int), .int .i64 (n : Int)] (strV (headL kind n)) := by
 by_cases h : n ≤ 55
 ·exact headOf_short kind n hk h
 ·exact headOf_long kind n hk (by omega) hn2
def headI (t : It) (n : Nat) : List UInt8 := if t.list then headL 192 n else if bareB t.bytes.data.toList then [] else headL 128 n
theorem head_any (t : It) (n : Nat) (hn : n ≤ 4611686018427387903) (v : Value) (w : World) (ht : ItemAt w t v) : Calls Tryz.prog 96 #[v, .int .i64 (n : Int)] w fun e w' => e = .returned (strV (headI t n)) ∧ Below w.heap.size w w' := by
 obtain ⟨a, cap, rfl, hkn, hs, hk⟩ := ht.open
 clear ht hk hkn
 have HB := hid (fun w => bare_any t.bytes.data.toList (by simpa using hs) w)
 have HL := hid (headOf_ret 192 n (.inr rfl) hn)
 have HT := hid (headOf_ret 128 n (.inl rfl) hn)
 have hR := hid (show headI t n = if t.list then headL 192 n else if bareB t.bytes.data.toList then [] else headL 128 n from rfl)
 have hbs : strV t.bytes.data.toList = .string t.bytes := rfl
 rw [hbs] at HB
 clear hbs
 have hnI : (n : Int) ≤ 4611686018427387903 := by omega
 have hn0 : (0 : Int) ≤ (n : Int) := by omega
 replace hn := hid hn
 generalize headI t n = R at *
 generalize t.list = l at *
 generalize bareB t.bytes.data.toList = bb at *
 generalize t.bytes = b at *
 generalize t.kids.length = kn at *
 obtain ⟨W1, hW1, LX, Q⟩ := newBox w 78 #[.bool l, .string b, .slice a kn cap]
 have k0 := LX.cell 0 _ rfl
 have k1 := LX.cell 1 _ rfl
 have k2 := LX.cell 2 _ rfl
 replace LX := hid LX
 replace Q := hid Q
 have hmx : Tryz.prog.follows .mixedOrders = true := by kernel_rfl
 cases l with
 | true =>
  go_enter Tryz.func96, Tryz.ntmps96
  go_wp2_with fail
  refine (HL.out _).mono ?_
  rintro _ W2 ⟨rfl, q⟩
  replace Q := hid (Q.out.trans (q.mono Q.out.size))
  clear q
  go_wp2_with fail
  go_ret
  exact ⟨by rw [hR.out]; rfl, Q.out⟩
 | false =>
  cases bb with
  | true =>
   go_enter Tryz.func96, Tryz.ntmps96
   go_wp2_with fail
   refine (HB.out _).mono ?_
   rintro _ W2 ⟨rfl, rfl⟩
   go_wp2_with fail
   go_ret
   exact ⟨by rw [hR.out]; rfl, Q.out⟩
  | false =>
   go_enter Tryz.func96, Tryz.ntmps96
   go_wp2_with fail
   refine (HB.out _).mono ?_
   rintro _ W2 ⟨rfl, rfl⟩
   go_wp2_with fail
   refine (HT.out _).mono ?_
   rintro _ W2 ⟨rfl, q⟩
   replace Q := hid (Q.out.trans (q.mono Q.out.size))
   clear q
   go_wp2_with fail
   go_ret
   exact ⟨by rw [hR.out]; rfl, Q.out⟩
def heldB (t : It) : List UInt8 := t.bytes.data.toList ++ encL t.kids
theorem enc_held {d : Nat} {t : It} (h : RightI d t) : encI t = headI t (heldB t).length ++ heldB t := by
 obtain ⟨l, b, ks⟩ := t
 cases d with
 | zero => exact h.elim
 | succ d =>
  obtain ⟨h1, h2, _⟩ := h
  cases l with
  | true =>
   have hb : b = ⟨#[]⟩ := h1 rfl
   subst hb
   rw [encI_list]
   rfl
  | false =>
   have hk : ks = [] := List.length_eq_zero_iff.1 (h2 rfl)
   subst hk
   have he : heldB (.mk false b []) = b.data.toList := by simp [heldB, It.bytes, It.kids, encL]
   rw [he]
   rcases hbb : bareB b.data.toList with _ | _
   ·rw [encI_text b hbb]; simp [headI, It.list, It.bytes, hbb]
   ·rw [encI_bare b hbb]; simp [headI, It.list, It.bytes, hbb]
theorem encL_take : ∀ (ks : List It) (k : Nat) (x : It), ks[k]? = some x → encL (ks.take (k + 1)) = encL (ks.take k) ++ encI x
 | [], k, x, h => by simp at h
 | y :: ks, 0, x, h => by
  simp at h
  subst h
  simp [encL]
 | y :: ks, k + 1, x, h => by
  have h' : ks[k]? = some x := by simpa using h
  have := encL_take ks k x h'
  simp only [List.take_succ_cons, encL] at this ⊢
  rw [this, List.append_assoc]
theorem encL_part : ∀ (ks : List It) (k : Nat), (encL (ks.take k)).length ≤ (encL ks).length
 | [], k => by simp [encL]
 | y :: ks, 0 => by simp [encL]
 | y :: ks, k + 1 => by
  have := encL_part ks k
  simp only [List.take_succ_cons, encL, List.length_append] at this ⊢
  omega
def SeqP (N : Nat) (J Jx : Nat → World → Prop) (e : Ending) (W' : World) : Prop := (∃ v, e = .returned v) ∧ (J N W' ∨ ∃ k, k < N ∧ Jx k W')
def EK (w0 : World) (ks : List It) (k : Nat) (args : Array Value) (_ : World) : Prop := ∃ x v, ks[k]? = some x ∧ args = #[.int .i64 ((k : Nat) : Int), v] ∧ ItemAt w0 x v
theorem kids_seq (n : Nat) (ks : List It) (a : Option Addr) (cap Bx : Nat) (w0 w : World) (hk : KidsIn w0 ks a) (hn : ks.length ≤ 1099511627776) (hB : Below w0.heap.size w0 w) (hX : Has w Bx 76 #[.slice a ks.length cap]) :
  SeqC Fence.wide n Tryz.prog 148 #[.pointer (some ⟨Bx, 0, none⟩)] (EK w0 ks) (Kd w0.heap.size) GrR ks.length w := by
 intro ll J Jx W hW hJA hJxA hY h0
 have hlt := hX.lt
 have LX := hX.below hW hlt
 have c0 := LX.cell 0 _ rfl
 have HJ := hid (And.intro hJA hJxA)
 have HY := hid (fun k args W1 hk hJ hE => yieldAt_anyR (m := 7) (hY k args W1 hk hJ hE))
 have HK := hid hk
 have hW0 := hid (hB.trans (hW.mono hB.size))
 have h0' := hid h0
 clear hY hJA hJxA h0 hk hB hX hlt hW LX
 obtain ⟨m, en⟩ : ∃ m, ks.length = m := ⟨_, rfl⟩
 rw [en] at hn c0 ⊢
 replace en := hid en
 have hfin := hid (show ∀ (X : World) k, k < m → Jx k X → SeqP m J Jx (.returned (.tuple #[])) X from fun X k h1 h2 => ⟨⟨_, rfl⟩, .inr ⟨k, h1, h2⟩⟩)
 show CallsIn _ _ _ _ _ _ (SeqP m J Jx)
 refine callsIn_free free_wide ((callsIn_wide (n := 8)).1 ?_)
 refine callsIn_of_wp Tryz.func148 rfl trivial ?_ rfl
 simp only [Tryz.ntmps148, List.size_toArray, List.length_cons, List.length_nil, Nat.reduceAdd, Nat.reduceSub, Array.replicate_succ, Array.replicate_zero, List.push_toArray, List.append_toArray, List.nil_append, List.cons_append]
 gi_wp2_with fail
 gi_loopw [7] (fun i wr => ∃ k : Nat, k ≤ m ∧ i = .int .i64 (k : Int) ∧ J k wr ∧ Kd w0.heap.size W wr) (fun i _ => m - (intOf i).toNat)
 case atStart => exact ⟨0, by omega, rfl, h0'.out, Kd.refl _ _⟩
 case round =>
  clear h0'
  obtain ⟨k, hkn, rfl, hJ, kd⟩ := hrel
  by_cases hk5 : k < m
  ·have hkI : (k : Int) < (m : Int) := by omega
   have hk0 : (0 : Int) ≤ (k : Int) := by omega
   obtain ⟨g, o, rfl, hK⟩ := HK.out.resolve_left (fun h => by have h2 := en.out; rw [h] at h2; simp at h2; omega)
   obtain ⟨kx, hkx⟩ : ∃ kx, ks[k]? = some kx := ⟨_, List.getElem?_eq_getElem (by have := en.out; omega)⟩
   obtain ⟨l1, b1, a1, n1, cap1, e0, e1, e2, hi⟩ := hK.get3 k _ hkx
   have hB := hW0.out.trans kd.1
   replace e0 := (hB.cell (p := ⟨g, _, none⟩) (ltCell e0)).trans e0
   replace e1 := (hB.cell (p := ⟨g, _, none⟩) (ltCell e1)).trans e1
   replace e2 := (hB.cell (p := ⟨g, _, none⟩) (ltCell e2)).trans e2
   have NX := Has.new wr 78 #[.bool false, .string ⟨#[]⟩, .slice none 0 0]
   have x0 := NX.cell 0 _ rfl
   have x1 := NX.cell 1 _ rfl
   have x2 := NX.cell 2 _ rfl
   have f0 := NX.frozen 0
   have f1 := NX.frozen 1
   have f2 := NX.frozen 2
   replace NX := hid NX
   have q := newA wr (.cells #[.bool l1, .string b1, .slice a1 n1 cap1] 78)
   obtain ⟨fn, tmps, assign, body, hy, hR⟩ := HY.out k #[.int .i64 (k : Int), .agg #[.bool l1, .string b1, .slice a1 n1 cap1]] (wr.alloc (.cells #[.bool l1, .string b1, .slice a1 n1 cap1] 78)) (by have := en.out; omega) (HJ.out.1 _ _ _ hJ q) ⟨kx, _, hkx, rfl, hi⟩
   have kdA := hid (kd.trans (Kd.grow q hB.size))
   have lg := ltCell e0
   clear hB hi hK HK hJ kd q HJ hkx
   gi_wp2_with fail
   refine (roundIn_anyR hR).mono ?_
   rintro e W3 (⟨rfl, hJ3, hk3⟩ | ⟨rfl, hJx3⟩)
   ·have kd3 := hid (kdA.out.trans hk3)
    replace hJ3 := hid hJ3
    clear hk3 kdA x0 x1 x2 f0 f1 f2 e0 e1 e2 NX lg hR hy
    gi_wp2_with fail
    go_roundw
    case rel => exact ⟨k + 1, by omega, by simp, hJ3.out, kd3.out⟩
    case measure => simp [intOf]; omega
   ·have hE := hid (hfin.out _ _ hk5 hJx3)
    clear kdA x0 x1 x2 f0 f1 f2 e0 e1 e2 NX lg hJx3 hR hy
    gi_wp2_with fail
    refine bodyPost_ret (results_none rfl _ _ _) rfl ?_
    exact hE.out
  ·obtain rfl : k = m := by omega
   have hE := hid (show SeqP k J Jx (.returned (.tuple #[])) wr from ⟨⟨_, rfl⟩, .inl hJ⟩)
   clear hJ kd
   gi_wp2_with fail
   first | go_end0 | skip
   exact hE.out
theorem slAll_any (a : Option Addr) (n cap : Nat) (w : World) : Calls Tryz.prog 120 #[.slice a n cap] w fun e w' => e = .returned (.func (.func 148) #[] #[.pointer (some ⟨w.heap.size, 0, none⟩)]) ∧ w.alloc (.cells #[.slice a n cap] 76) = w' := by
 go_enter Tryz.func120, Tryz.ntmps120
 go_wp2_with fail
 go_ret
 exact ⟨rfl, rfl⟩
def SizeAt (t : It) : Prop := ∀ (v : Value) (w : World), ItemAt w t v → Calls Tryz.prog 65 #[v] w fun e w' => e = .returned (.int .i64 (((encI t).length : Nat) : Int)) ∧ Below w.heap.size w w'
theorem held1_any (t : It) (HS : SizeAt t) (n : Nat) (hb : n + (encI t).length ≤ 2305843009213693952) (v : Value) (w : World) (ht : ItemAt w t v) :
  Calls Tryz.prog 121 #[.int .i64 (n : Int), v] w fun e w' => e = .returned (.int .i64 (((n + (encI t).length : Nat)) : Int)) ∧ Below w.heap.size w w' := by
 obtain ⟨a, cap, rfl, _, _, _⟩ := ht.open
 have q := newA w (.cells #[.bool t.list, .string t.bytes, .slice a t.kids.length cap] 78)
 have HC := hid (HS _ _ (ht.later q))
 have LX := Has.new w 78 #[.bool t.list, .string t.bytes, .slice a t.kids.length cap]
 have c0 := LX.cell 0 _ rfl
 have c1 := LX.cell 1 _ rfl
 have c2 := LX.cell 2 _ rfl
 replace LX := hid LX
 replace q := hid q
 have hcast := hid (Int.natCast_add n (encI t).length)
 have hbI : (n : Int) + ((encI t).length : Int) ≤ 2305843009213693952 := by omega
 generalize (encI t).length = L at *
 have h0 : (0 : Int) ≤ (n : Int) := by omega
 have h1 : (0 : Int) ≤ (L : Int) := by omega
 clear ht HS hb
 go_enter Tryz.func121, Tryz.ntmps121
 go_wp2_with fail
 refine HC.out.mono ?_
 rintro _ W2 ⟨rfl, q2⟩
 replace q := hid (q.out.trans (q2.mono q.out.size))
 clear HC c0 c1 c2 q2 LX
 go_wp2_with fail
 go_ret
 exact ⟨by rw [hcast.out]; rfl, q.out⟩
def SumSt (w : World) (f s0 : Nat) (ks : List It) (Bs Bf k : Nat) (W : World) : Prop :=
 (Has W Bs 3 #[.int .i64 (((s0 + (encL (ks.take k)).length : Nat)) : Int)] ∧ Has W Bf 146 #[.func (.func f) #[] #[]]) ∧ Below w.heap.size w W
theorem SumSt.later {w : World} {f s0 : Nat} {ks : List It} {Bs Bf k : Nat} {A X : World} (h : SumSt w f s0 ks Bs Bf k A) (hb : Below A.heap.size A X) : SumSt w f s0 ks Bs Bf k X :=
 ⟨⟨h.1.1.later hb, h.1.2.later hb⟩, h.2.trans (hb.mono h.2.size)⟩
theorem SumSt.own {w : World} {f s0 : Nat} {ks : List It} {Bs Bf n : Nat} (hn : w.heap.size ≤ n) : OwnFrom n (fun k W => SumSt w f s0 ks Bs Bf k W) := fun k A X row hs hg hr =>
 ⟨⟨hs.1.1.ownR hg (fun r e => (hr r e).2), hs.1.2.ownR hg (fun r e => (hr r e).2)⟩, below_ownR hs.2 hg hn (fun r e => (hr r e).1)⟩
theorem gatherInt_any (ks : List It) (HS : ∀ k ∈ ks, SizeAt k) (s0 : Nat) (hb : s0 + (encL ks).length ≤ 2305843009213693952) (a : Option Addr) (cap Bx : Nat) (w0 w : World) (hB : Below w0.heap.size w0 w) (hk : KidsIn w0 ks a) (hn : ks.length ≤ 1099511627776) (hX : Has w Bx 76 #[.slice a ks.length cap]) :
  Calls Tryz.prog 119 #[.func (.func 148) #[] #[.pointer (some ⟨Bx, 0, none⟩)], .int .i64 (s0 : Int), .func (.func 121) #[] #[]] w fun e w' => e = .returned (.int .i64 (((s0 + (encL ks).length : Nat)) : Int)) ∧ Below w.heap.size w w' := by
 have hmx : Tryz.prog.follows .mixedOrders = true := by kernel_rfl
 have HSK := hid HS
 have HKK := hid hk
 have HBB := hid hB
 have hbH := hid hb
 have hnH := hid hn
 clear HS hk hb hn hB
 refine (callsIn_wide (n := 8)).1 ?_
 refine callsIn_of_wp_marks Tryz.func119 rfl trivial ?_ rfl
 simp only [Tryz.ntmps119, List.size_toArray, List.length_cons, List.length_nil, Nat.reduceAdd, Nat.reduceSub, Array.replicate_succ, Array.replicate_zero, List.push_toArray, List.append_toArray, List.nil_append, List.cons_append]
 have LS := (Has.new w 3 #[.int .i64 (s0 : Int)]).alloc (.cells #[.func (.func 121) #[] #[]] 146)
 have LF := Has.new (w.alloc (.cells #[.int .i64 (s0 : Int)] 3)) 146 #[.func (.func 121) #[] #[]]
 simp only [World.size_alloc] at LF
 have LX := (hX.alloc (.cells #[.int .i64 (s0 : Int)] 3)).alloc (.cells #[.func (.func 121) #[] #[]] 146)
 have Q := (newA w (.cells #[.int .i64 (s0 : Int)] 3)).alloc (by simp) (.cells #[.func (.func 121) #[] #[]] 146)
 have hs2 : ((w.alloc (.cells #[.int .i64 (s0 : Int)] 3)).alloc (.cells #[.func (.func 121) #[] #[]] 146)).heap.size = w.heap.size + 2 := by simp
 replace LS := hid LS
 replace LF := hid LF
 replace LX := hid LX
 replace Q := hid Q
 replace hs2 := hid hs2
 clear hX
 gi_wp2_with fail
 generalize (w.alloc (.cells #[.int .i64 (s0 : Int)] 3)).alloc (.cells #[.func (.func 121) #[] #[]] 146) = W2 at *
 refine wpIn_rangeFunc_C rfl (by omega) (gf := 148) (lb := #[.pointer (some ⟨Bx, 0, none⟩)]) rfl trivial (enters_of Tryz.func148 (by kernel_rfl) rfl)
  (kids_seq _ ks a cap Bx w0 W2 HKK.out hnH.out (HBB.out.trans (Q.out.mono HBB.out.size)) LX.out) GrR.keeps Kd.trans (fun W l o o' hl h1 h2 _ => Kd.put W l o o' (by have := hs2.out; have := HBB.out.size; omega) h1 h2) (fun k args W _ hE => by obtain ⟨x, v', _, e, _⟩ := hE; rw [e]; rfl)
  (fun k W => SumSt w 121 s0 ks w.heap.size (w.heap.size + 1) k W) (fun _ _ _ => False) (SumSt.own (by have := hs2.out; omega)) (fun c k A X row hs hg hr => hs)
  (fun s V X hs hb => hs.later hb) (fun c s V X hs hb => hs) ⟨⟨by rw [show (encL (ks.take 0)).length = 0 by simp [encL]]; exact LS.out, LF.out⟩, Q.out⟩
  (fun k a' V => ∃ x l1 b1 a1 n1 cap1 bx, ks[k]? = some x ∧ ItemAt w0 x (.agg #[.bool l1, .string b1, .slice a1 n1 cap1]) ∧ Has V bx 78 #[.bool l1, .string b1, .slice a1 n1 cap1] ∧
   a' = { tmps := #[.func (.func 148) #[] #[.pointer (some ⟨Bx, 0, none⟩)], .int .i64 (s0 : Int), .func (.func 121) #[] #[], undef, .pointer (some ⟨w.heap.size, 0, none⟩), .pointer (some ⟨w.heap.size + 1, 0, none⟩), .int .i64 0, undef, .pointer (some ⟨bx, 0, none⟩), .func (.func 148) #[] #[.pointer (some ⟨Bx, 0, none⟩)], .int .i64 ((k : Nat) : Int), .agg #[.bool l1, .string b1, .slice a1 n1 cap1], undef, undef, undef, undef, undef], defers := [] })
  (fun k a' _ X Y row hs hg hr => by
   obtain ⟨x, l1, b1, a1, n1, cap1, bx, h1, h2, h3, e⟩ := hs
   exact ⟨x, l1, b1, a1, n1, cap1, bx, h1, h2, h3.ownR hg (fun r e => (hr r e).2), e⟩) ?assign ?body ?done ?stop
 case assign =>
  intro ll k args W K hll hkN hst hE hK
  obtain ⟨x, v', h1, rfl, h3⟩ := hE
  obtain ⟨a1, cap1, rfl, _, _, _⟩ := h3.open
  have HST := hid hst
  have HK := hid hK
  have H3 := hid h3
  have H1 := hid h1
  clear hst hkN hK h3 h1
  have NX := Has.new W 78 #[.bool false, .string ⟨#[]⟩, .slice none 0 0]
  have x0 := NX.cell 0 _ rfl
  have x1 := NX.cell 1 _ rfl
  have x2 := NX.cell 2 _ rfl
  have f0 := NX.frozen 0
  have f1 := NX.frozen 1
  have f2 := NX.frozen 2
  replace NX := hid NX
  generalize x.list = l1 at *
  generalize x.bytes = b1 at *
  generalize x.kids.length = n1 at *
  gi_wp2_with fail
  have hg := newA W (.cells #[.bool l1, .string b1, .slice a1 n1 cap1] 78)
  exact HK.out _ _ ((KeepsOthers.alloc _ _).from _) (Kd.grow hg (Nat.le_trans HBB.out.size HST.out.2.size)) (HST.out.later hg) ⟨x, l1, b1, a1, n1, cap1, W.heap.size, H1.out, H3.out, Has.new _ _ _, rfl⟩
 case body =>
  rintro ll k a' W hl hlo hkN hst ⟨x, l1, b1, a1, n1, cap1, bx, h1, h2, h3, rfl⟩
  have hm : x ∈ ks := List.mem_of_getElem? h1
  have htk := encL_take ks k x h1
  have hpt := encL_part ks (k + 1)
  rw [htk, List.length_append] at hpt
  have hbb := hbH.out
  have e0 := h3.cell 0 _ rfl
  have e1 := h3.cell 1 _ rfl
  have e2 := h3.cell 2 _ rfl
  have cS := hst.1.1.cell 0 _ rfl
  have cF := hst.1.2.cell 0 _ rfl
  have HC := hid (held1_any x (HSK.out x hm) (s0 + (encL (ks.take k)).length) (by omega) (.agg #[.bool l1, .string b1, .slice a1 n1 cap1]) W (h2.later (HBB.out.trans (hst.2.mono HBB.out.size))))
  have hnx := hid (show s0 + (encL (ks.take k)).length + (encI x).length = s0 + (encL (ks.take (k + 1))).length by rw [htk, List.length_append]; omega)
  have HST := hid hst
  generalize s0 + (encL (ks.take k)).length = S at *
  clear h1 h2 h3 hst hm htk hpt hbb hl hlo hkN
  gi_wp2_with fail
  refine (callsIn_free (free_round ll) HC.out).mono ?_
  rintro _ W3 ⟨rfl, q⟩
  rw [hnx.out]
  have LS3 := HST.out.1.1.later q
  have LF3 := HST.out.1.2.later q
  have Q3 := HST.out.2.trans (q.mono HST.out.2.size)
  have c3 := LS3.cell 0 _ rfl
  have f3 := LS3.frozen 0
  have KE := hid ((⟨q.size, fun k _ _ h _ => (q.block k (Array.getElem?_eq_some_iff.1 h).1).trans h⟩ : KeepsFrom W2.heap.size W W3).trans ((KeepsOthers.setCell W3 ⟨w.heap.size, 0, none⟩ (.int .i64 (((s0 + (encL (ks.take (k + 1))).length : Nat)) : Int))).from W2.heap.size))
  have KD := hid ((Kd.grow q (Nat.le_trans HBB.out.size HST.out.2.size)).trans (Kd.set (n := w0.heap.size) LS3 (by decide) HBB.out.size 0 (.int .i64 (((s0 + (encL (ks.take (k + 1))).length : Nat)) : Int))))
  have ST := hid (show SumSt w 121 s0 ks w.heap.size (w.heap.size + 1) (k + 1) (W3.setCell ⟨w.heap.size, 0, none⟩ (.int .i64 (((s0 + (encL (ks.take (k + 1))).length : Nat)) : Int))) from ⟨⟨LS3.set 0 _, LF3.other (by simp) _⟩, Q3.setCell (by simp) _⟩)
  clear q LS3 LF3 Q3 HC hnx HST e0 e1 e2 cS cF
  generalize s0 + (encL (ks.take (k + 1))).length = S2 at *
  gi_wp2_with fail
  exact ⟨KE.out, KD.out, ST.out⟩
 case done =>
  rintro D W hD hst hK
  have cS := hst.1.1.cell 0 _ rfl
  rw [show (encL (ks.take ks.length)).length = (encL ks).length by rw [List.take_length]] at cS
  have Q3 := hid (show Below w.heap.size w (W.putObj D (.deferred none)) from hst.2.trans ⟨rfl, rfl, rfl, by simp, fun k hk => World.putObj_heap_other (by have := hs2.out; omega)⟩)
  replace hK := hid hK
  clear hst
  obtain ⟨S, hS⟩ : ∃ S, s0 + (encL ks).length = S := ⟨_, rfl⟩
  rw [hS] at cS
  replace hS := hid hS
  gi_wp2_with fail
  refine ⟨by simp, .inl ⟨_, _, rfl, run_takeDeferred hK.out, ?_⟩⟩
  exact ⟨.int .i64 ((S : Nat) : Int), by simp [results, Tryz.results119, go_sem], by rw [hS.out], Q3.out⟩
 case stop =>
  rintro D c k W hD hk h hK
  exact h.elim
theorem held_any (t : It) (HS : ∀ k ∈ t.kids, SizeAt k) (hb : (heldB t).length ≤ 2305843009213693952) (v : Value) (w : World) (ht : ItemAt w t v) :
  Calls Tryz.prog 95 #[v] w fun e w' => e = .returned (.int .i64 (((heldB t).length : Nat) : Int)) ∧ Below w.heap.size w w' := by
 have hmx : Tryz.prog.follows .mixedOrders = true := by kernel_rfl
 obtain ⟨a, cap, rfl, hn, hs, hk⟩ := ht.open
 have hbs : t.bytes.data.toList.length = t.bytes.size := by simp
 have hL : (heldB t).length = t.bytes.size + (encL t.kids).length := by unfold heldB; rw [List.length_append, hbs]
 rw [hL] at hb ⊢
 have HG := hid (fun (W : World) (B : Nat) (hB : Below w.heap.size w W) (hX : Has W B 76 #[.slice a t.kids.length cap]) => gatherInt_any t.kids HS t.bytes.size hb a cap B w W hB hk hn hX)
 clear ht hk HS hL hbs
 have Q := newA w (.cells #[.bool t.list, .string t.bytes, .slice a t.kids.length cap] 78)
 have LX := Has.new w 78 #[.bool t.list, .string t.bytes, .slice a t.kids.length cap]
 obtain ⟨S, hS⟩ : ∃ S, t.bytes.size + (encL t.kids).length = S := ⟨_, rfl⟩
 rw [hS] at HG hb ⊢
 clear hS
 generalize t.bytes = b at *
 generalize t.kids.length = n at *
 generalize t.list = l at *
 go_enter Tryz.func95, Tryz.ntmps95
 go_wp2_with fail
 obtain ⟨W1, hW1⟩ : ∃ W1, w.alloc (.cells #[.bool l, .string b, .slice a n cap] 78) = W1 := ⟨_, rfl⟩
 rw [hW1] at Q LX ⊢
 clear hW1
 refine wp_region_ghost [some (.pointer (some ⟨w.heap.size, 2, none⟩)), some (.slice a n cap), none, some (.pointer (some ⟨w.heap.size, 1, none⟩)), some (.string b), some (.int .i64 (b.size : Int)), some (.int .i64 (S : Int)), some (.int .i64 (S : Int))] [[], [0], [0, 1], [], [3], [3, 4], [0, 1, 2, 3, 4, 5], [0, 1, 2, 3, 4, 5, 6]]
  (fun f g' w' => (Below w.heap.size w w' ∧ Has w' w.heap.size 78 #[.bool l, .string b, .slice a n cap]) ∧ (f 2 = true → ∃ B, g' 2 = .func (.func 148) #[] #[.pointer (some ⟨B, 0, none⟩)] ∧ Has w' B 76 #[.slice a n cap]))
  (by kernel_rfl) (by kernel_rfl) (by kernel_rfl) ?_ ?_ ?_ ?_
 ·rintro f g' wa wb ⟨⟨h1, h2⟩, h3⟩ hb
  exact ⟨⟨h1.trans (hb.mono h1.size), h2.later hb⟩, fun hf => by obtain ⟨B, e, h⟩ := h3 hf; exact ⟨B, e, h.later hb⟩⟩
 ·intro f f' g1 g1' wa h
  have ha := h 2 rfl
  rw [ha.1, ha.2]
  exact id
 ·exact ⟨⟨Q.drew, LX⟩, fun h => by cases h⟩
 rintro f g' y ⟨⟨h1, h2⟩, h3⟩ Dn
 clear Q LX
 have c0 := h2.cell 0 _ rfl
 have c1 := h2.cell 1 _ rfl
 have c2 := h2.cell 2 _ rfl
 replace hs := hid hs
 have hsz : b.size ≤ 9223372036854775807 := by have := hs.out; omega
 refine GW.known _ rfl (fun hd hf => ?_) ?_
 ·go_wp2
  exact ⟨rfl, rfl, Below.refl _ _⟩
 simp only [Act.put, sT, sS, sZ]
 refine GW.known _ rfl (fun hd hf => ?_) ?_
 ·go_wp2
  exact ⟨rfl, rfl, Below.refl _ _⟩
 simp only [Act.put, sT, sS, sZ]
 refine GW.open rfl (fun hd hf => ?_) ?_
 ·go_wp2_with fail
  refine (slAll_any a n cap y).mono ?_
  rintro e u ⟨rfl, hu⟩
  have hq : Below y.heap.size y u := by rw [← hu]; exact (Below.refl _ _).alloc (Nat.le_refl _) _
  have hN : Has u y.heap.size 76 #[.slice a n cap] := by rw [← hu]; exact Has.new _ _ _
  clear h3
  go_wp2_with fail
  exact ⟨rfl, ⟨h1.trans (hq.mono h1.size), h2.later hq⟩, fun _ => ⟨y.heap.size, rfl, hN⟩⟩
 simp only [Act.put, sT, sS, sZ]
 refine GW.known _ rfl (fun hd hf => ?_) ?_
 ·go_wp2
  exact ⟨rfl, rfl, Below.refl _ _⟩
 simp only [Act.put, sT, sS, sZ]
 refine GW.known _ rfl (fun hd hf => ?_) ?_
 ·go_wp2
  exact ⟨rfl, rfl, Below.refl _ _⟩
 simp only [Act.put, sT, sS, sZ]
 refine GW.known _ rfl (fun hd hf => ?_) ?_
 ·go_wp2
  exact ⟨rfl, rfl, Below.refl _ _⟩
 simp only [Act.put, sT, sS, sZ]
 refine GW.known _ rfl (fun hd hf => ?_) ?_
 ·obtain ⟨B, hg, hB⟩ := h3 (hd 2 (by decide))
  rw [hg]
  have HC := hid (HG.out y B h1 hB)
  clear h3
  go_wp2_with fail
  refine HC.out.mono ?_
  rintro e u ⟨rfl, hb⟩
  go_wp2
  exact ⟨rfl, rfl, hb⟩
 simp only [Act.put, sT, sS, sZ]
 refine GW.known _ rfl (fun hd hf => ?_) ?_
 ·go_wp2
  exact ⟨rfl, rfl, Below.refl _ _⟩
 simp only [Act.put, sT, sS, sZ]
 refine GW.nil (fun _ => ?_)
 clear h3
 go_wp2_with fail
 go_ret
 exact ⟨rfl, h1⟩
theorem encI_kid {t k : It} {d : Nat} (hr : RightI d t) (h : k ∈ t.kids) : (encI k).length ≤ (encI t).length := by
 rw [enc_held hr, List.length_append]
 unfold heldB
 rw [List.length_append]
 obtain ⟨j, hj⟩ := List.getElem?_of_mem h
 have h1 := encL_take t.kids j k hj
 have h2 := encL_part t.kids (j + 1)
 rw [h1, List.length_append] at h2
 omega
theorem right_kid {t k : It} {d : Nat} (hr : RightI d t) (h : k ∈ t.kids) : RightI (d - 1) k := by
 cases d with
 | zero => exact hr.elim
 | succ d => exact hr.2.2 k h
theorem size_step (t : It) (d : Nat) (hr : RightI d t) (hb : (encI t).length ≤ 2305843009213693952) (IH : ∀ k ∈ t.kids, SizeAt k) : SizeAt t := by
 intro v w ht
 obtain ⟨a, cap, rfl, hn, hs, hk⟩ := ht.open
 have he := enc_held hr
 have hel : (encI t).length = (headI t (heldB t).length).length + (heldB t).length := by rw [he, List.length_append]
 have Q := newA w (.cells #[.bool t.list, .string t.bytes, .slice a t.kids.length cap] 78)
 have LX := Has.new w 78 #[.bool t.list, .string t.bytes, .slice a t.kids.length cap]
 obtain ⟨W1, hW1⟩ : ∃ W1, w.alloc (.cells #[.bool t.list, .string t.bytes, .slice a t.kids.length cap] 78) = W1 := ⟨_, rfl⟩
 rw [hW1] at LX Q
 have HH := hid (held_any t IH (by omega) _ W1 (ht.later Q))
 have HD := hid (fun W (hW : Below w.heap.size w W) => head_any t (heldB t).length (by omega) _ W (ht.later hW))
 rw [hel] at hb ⊢
 clear he hel hk IH ht hr
 have hsz : (⟨(headI t (heldB t).length).toArray⟩ : ByteArray).size = (headI t (heldB t).length).length := rfl
 unfold strV at HD
 generalize (⟨(headI t (heldB t).length).toArray⟩ : ByteArray) = hd at *
 generalize (headI t (heldB t).length).length = n1 at *
 generalize (heldB t).length = n2 at *
 generalize t.bytes = b at *
 generalize t.kids.length = n at *
 generalize t.list = l at *
 have c0 := LX.cell 0 _ rfl
 have c1 := LX.cell 1 _ rfl
 have c2 := LX.cell 2 _ rfl
 replace LX := hid LX
 replace Q := hid Q
 have hbI : (n1 : Int) + (n2 : Int) ≤ 2305843009213693952 := by omega
 have h1 : (0 : Int) ≤ (n1 : Int) := by omega
 have h2 : (0 : Int) ≤ (n2 : Int) := by omega
 have hcast := hid (Int.natCast_add n1 n2)
 clear hb
 go_enter Tryz.func65, Tryz.ntmps65
 go_wp2_with fail
 refine HH.out.mono ?_
 rintro _ W2 ⟨rfl, q⟩
 replace LX := hid (LX.out.later q)
 replace Q := hid (Q.out.trans (q.mono Q.out.size))
 clear q HH c0 c1 c2 hW1
 have c0 := LX.out.cell 0 _ rfl
 have c1 := LX.out.cell 1 _ rfl
 have c2 := LX.out.cell 2 _ rfl
 go_wp2_with fail
 refine (HD.out _ Q.out).mono ?_
 rintro _ W3 ⟨rfl, q⟩
 replace Q := hid (Q.out.trans (q.mono Q.out.size))
 clear q HD c0 c1 c2
 go_wp2_with fail
 go_ret
 exact ⟨by rw [hcast.out]; rfl, Q.out⟩
theorem size_any : ∀ (t : It) (d : Nat), RightI d t → (encI t).length ≤ 2305843009213693952 → SizeAt t := by
 refine It.induct ?_
 intro t ih d hr hb
 exact size_step t d hr hb (fun k hk => ih k hk (d - 1) (right_kid hr hk) (by have := encI_kid hr hk; omega))
theorem held_right (t : It) (d : Nat) (hr : RightI d t) (hb : (encI t).length ≤ 2305843009213693952) (v : Value) (w : World) (ht : ItemAt w t v) :
  Calls Tryz.prog 95 #[v] w fun e w' => e = .returned (.int .i64 (((heldB t).length : Nat) : Int)) ∧ Below w.heap.size w w' :=
 held_any t (fun k hk => size_any k (d - 1) (right_kid hr hk) (by have := encI_kid hr hk; omega)) (by have := enc_held hr; rw [this, List.length_append] at hb; omega) v w ht
end
end Go.Proofs.YtkicmbdjihjgfaaGreatDoor
