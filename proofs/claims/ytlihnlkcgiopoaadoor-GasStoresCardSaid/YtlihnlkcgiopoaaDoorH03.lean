/- Part. -/
import Derived.Deep.OwnRows
import Derived.Laws.BytesArg
import Derived.Test.YtlihnlkcgiopoaaDoorH02
import Derived.Test.YtlihnlkcgiopoaaDoorH01
import Derived.Laws.StructEq
import Derived.Laws.Cover2
import Derived.Lib.Hide
set_option maxRecDepth 100000
set_option maxHeartbeats 16000000
namespace Go.Proofs.YtlihnlkcgiopoaaDoor
section
open Go Go.RowKit Go.Shelf
attribute [local go_sem] Oper.semAt_some Grows wide_fn
def byteN (a t : Nat) : Nat := a / 256 ^ t % 256
theorem byteN_lim (a k i : Nat) (hk : k < 4) (hi : i < 8) : (lim a k / 256 ^ i) % 256 = (byteN a (8 * k + i) : Int) := by
 unfold byteN
 have h : ∀ x : Nat, ((x % 18446744073709551616 : Nat) : Int) / 256 ^ i % 256 = ((x / 256 ^ i % 256 : Nat) : Int) := by
  intro x
  have : i = 0 ∨ i = 1 ∨ i = 2 ∨ i = 3 ∨ i = 4 ∨ i = 5 ∨ i = 6 ∨ i = 7 := by omega
  rcases this with rfl | rfl | rfl | rfl | rfl | rfl | rfl | rfl <;> simp only [Nat.reducePow, Int.reducePow] <;> omega
 match k, hk with
 | 0, _ =>
  show ((a % 18446744073709551616 : Nat) : Int) / 256 ^ i % 256 = _
  rw [h a, Nat.mul_zero, Nat.zero_add]
 | 1, _ =>
  show ((a / 18446744073709551616 % 18446744073709551616 : Nat) : Int) / 256 ^ i % 256 = _
  rw [h, show (18446744073709551616 : Nat) = 256 ^ (8 * 1) by decide, Nat.div_div_eq_div_mul, ← Nat.pow_add]
 | 2, _ =>
  show ((a / 340282366920938463463374607431768211456 % 18446744073709551616 : Nat) : Int) / 256 ^ i % 256 = _
  rw [h, show (340282366920938463463374607431768211456 : Nat) = 256 ^ (8 * 2) by decide, Nat.div_div_eq_div_mul, ← Nat.pow_add]
 | 3, _ =>
  show ((a / 6277101735386680763835789423207666416102355444464034512896 % 18446744073709551616 : Nat) : Int) / 256 ^ i % 256 = _
  rw [h, show (6277101735386680763835789423207666416102355444464034512896 : Nat) = 256 ^ (8 * 3) by decide, Nat.div_div_eq_div_mul, ← Nat.pow_add]
def outAt (a m j : Nat) : Value := if 32 - m ≤ j then .int .u8 (byteN a (31 - j) : Int) else .int .u8 0
theorem outAt_succ (a m : Nat) (hm : m < 32) : (fun j => if j = 31 - m then Value.int .u8 (byteN a m : Int) else outAt a m j) = fun j => if j < 32 then outAt a (m + 1) j else outAt a m j := by
 funext j
 unfold outAt
 by_cases h : j = 31 - m
 ·subst h
  rw [if_pos rfl, if_pos (by omega), if_pos (by omega), show 31 - (31 - m) = m by omega]
 ·rw [if_neg h]
  by_cases h2 : j < 32
  ·rw [if_pos h2]
   by_cases h3 : 32 - m ≤ j
   ·rw [if_pos h3, if_pos (by omega)]
   ·rw [if_neg h3, if_neg (by omega)]
  ·rw [if_neg h2]
def bytesOf (a : Nat) : ByteArray := strOfNums ((List.range 32).map fun j => (byteN a (31 - j) : Int))
def BytSt (w : World) (a m : Nat) (W : World) : Prop :=
 (W.rowIs (w.heap.size + 1) 97 32 (outAt a m) ∧ Boxed W (w.heap.size + 1 + 1) 3 (.int .i64 ((32 - m : Nat) : Int)) ∧ Arr4 W w.heap.size 24 (lim a) ∧ Boxed W (w.heap.size + 1 + 1 + 1) 101 (.pointer (some ⟨w.heap.size, 0, none⟩))) ∧ Below w.heap.size w W
theorem rowIs_own {β : Type} (B : Nat) (t : TypeId) (n : Nat) (f : β → Nat → Value) : Own (fun s W => World.rowIs W B t n (f s)) := fun s X Y row hs hg hrow =>
 hs.of_block (hg.block B hs.lt (fun e' => by
  obtain ⟨o, ho, hc⟩ := hrow B e'.symm
  obtain ⟨cs, h1, _⟩ := hs
  rw [h1] at ho
  cases ho
  cases hc))
theorem BytSt.own (w : World) (a B : Nat) (hB : w.heap.size ≤ B) : OwnFrom B (fun m W => BytSt w a m W) :=
 OwnFrom.and (Own.from (fun s X Y row hs hg hr => ⟨rowIs_own _ _ _ (fun m : Nat => outAt a m) s X Y row hs.1 hg hr, boxed_own _ _ (fun m : Nat => Value.int .i64 ((32 - m : Nat) : Int)) s X Y row hs.2.1 hg hr,
  Arr4.own _ _ (fun _ : Nat => _) s X Y row hs.2.2.1 hg hr, boxed_own _ _ (fun _ : Nat => _) s X Y row hs.2.2.2 hg hr⟩) _) (ownFrom_below (Nat.le_refl _) hB)
def partAt (a k : Nat) : Nat → Int
 | 0 => lim a k
 | i + 1 => partAt a k i / 256
theorem partAt_eq (a k : Nat) : ∀ i, partAt a k i = lim a k / 256 ^ i
 | 0 => by simp [partAt]
 | i + 1 => by
  show partAt a k i / 256 = _
  rw [partAt_eq a k i]
  obtain ⟨x, hx⟩ := Int.eq_ofNat_of_zero_le (lim_u64 a k).1
  rw [hx, Int.pow_succ]
  have h : ((x / 256 ^ i / 256 : Nat) : Int) = ((x / (256 ^ i * 256) : Nat) : Int) := by rw [Nat.div_div_eq_div_mul]
  simpa using h
theorem partAt_u64 (a k i : Nat) : U64 (partAt a k i) := by
 rw [partAt_eq]
 have h := lim_u64 a k
 unfold U64 at *
 exact ⟨Int.ediv_nonneg h.1 (Int.pow_nonneg (by decide)), Int.lt_of_le_of_lt (Int.ediv_le_self _ h.1) h.2⟩
theorem partAt_byte (a k i : Nat) (hk : k < 4) (hi : i < 8) : IntKind.u8.wrap (partAt a k i) = (byteN a (8 * k + i) : Int) := by
 have h := byteN_lim a k i hk hi
 rw [← partAt_eq] at h
 rw [← h]
 rfl
theorem bytes_ret (a : Nat) (_ha : W256 a) : Ret Tryd.prog 51 #[wv a] (.string (bytesOf a)) := by
 intro w
 unfold wv
 have h1 : 1 ≤ 4 := by omega
 refine (callsIn_wide (n := 4)).1 ?_
 refine callsIn_of_wp_marks Tryd.func51 rfl trivial ?_ rfl
 simp only [Tryd.ntmps51, List.size_toArray, List.length_cons, List.length_nil, Nat.reduceAdd, Nat.reduceSub, Array.replicate_succ, Array.replicate_zero, List.push_toArray, List.append_toArray, List.nil_append, List.cons_append]
 gi_wp2_with (gi_at_call 74; refine (callsIn_free free_wide (parts_any _ _)).mono ?_; rintro e w' ⟨rfl, rfl⟩)
 obtain ⟨W0, hW0⟩ : ∃ W0, ((((w.alloc (.cells #[.int .u64 (lim a 0), .int .u64 (lim a 1), .int .u64 (lim a 2), .int .u64 (lim a 3)] 24)).alloc (.cells #[.int .u8 0, .int .u8 0, .int .u8 0, .int .u8 0, .int .u8 0, .int .u8 0, .int .u8 0, .int .u8 0, .int .u8 0, .int .u8 0, .int .u8 0, .int .u8 0, .int .u8 0, .int .u8 0, .int .u8 0, .int .u8 0, .int .u8 0, .int .u8 0, .int .u8 0, .int .u8 0, .int .u8 0, .int .u8 0, .int .u8 0, .int .u8 0, .int .u8 0, .int .u8 0, .int .u8 0, .int .u8 0, .int .u8 0, .int .u8 0, .int .u8 0, .int .u8 0] 97)).alloc (.cells #[.int .i64 32] 3)).alloc (.cells #[.pointer (some ⟨w.heap.size, 0, none⟩)] 101)) = W0 := ⟨_, rfl⟩
 have hsz : W0.heap.size = w.heap.size + 4 := by rw [← hW0]; simp
 have hJ0 : BytSt w a 0 W0 := by
  rw [← hW0]
  refine ⟨⟨?_, ?_, ?_, ?_⟩, ((((Below.refl _ w).alloc (Nat.le_refl _) _).alloc (by simp) _).alloc (by simp; omega) _).alloc (by simp; omega) _⟩
  ·have h := World.rowIs_alloc (w.alloc (.cells #[.int .u64 (lim a 0), .int .u64 (lim a 1), .int .u64 (lim a 2), .int .u64 (lim a 3)] 24)) #[.int .u8 0, .int .u8 0, .int .u8 0, .int .u8 0, .int .u8 0, .int .u8 0, .int .u8 0, .int .u8 0, .int .u8 0, .int .u8 0, .int .u8 0, .int .u8 0, .int .u8 0, .int .u8 0, .int .u8 0, .int .u8 0, .int .u8 0, .int .u8 0, .int .u8 0, .int .u8 0, .int .u8 0, .int .u8 0, .int .u8 0, .int .u8 0, .int .u8 0, .int .u8 0, .int .u8 0, .int .u8 0, .int .u8 0, .int .u8 0, .int .u8 0, .int .u8 0] 97 (outAt a 0) (fun i hi => by
    match i, hi with
    | 0, _ => rfl
    | 1, _ => rfl
    | 2, _ => rfl
    | 3, _ => rfl
    | 4, _ => rfl
    | 5, _ => rfl
    | 6, _ => rfl
    | 7, _ => rfl
    | 8, _ => rfl
    | 9, _ => rfl
    | 10, _ => rfl
    | 11, _ => rfl
    | 12, _ => rfl
    | 13, _ => rfl
    | 14, _ => rfl
    | 15, _ => rfl
    | 16, _ => rfl
    | 17, _ => rfl
    | 18, _ => rfl
    | 19, _ => rfl
    | 20, _ => rfl
    | 21, _ => rfl
    | 22, _ => rfl
    | 23, _ => rfl
    | 24, _ => rfl
    | 25, _ => rfl
    | 26, _ => rfl
    | 27, _ => rfl
    | 28, _ => rfl
    | 29, _ => rfl
    | 30, _ => rfl
    | 31, _ => rfl
    | n + 32, h => exact absurd h (by show ¬ (n + 32 < 32); omega))
   rw [World.size_alloc] at h
   exact (h.alloc _).alloc _
  ·have h := Boxed.new ((w.alloc (.cells #[.int .u64 (lim a 0), .int .u64 (lim a 1), .int .u64 (lim a 2), .int .u64 (lim a 3)] 24)).alloc (.cells #[.int .u8 0, .int .u8 0, .int .u8 0, .int .u8 0, .int .u8 0, .int .u8 0, .int .u8 0, .int .u8 0, .int .u8 0, .int .u8 0, .int .u8 0, .int .u8 0, .int .u8 0, .int .u8 0, .int .u8 0, .int .u8 0, .int .u8 0, .int .u8 0, .int .u8 0, .int .u8 0, .int .u8 0, .int .u8 0, .int .u8 0, .int .u8 0, .int .u8 0, .int .u8 0, .int .u8 0, .int .u8 0, .int .u8 0, .int .u8 0, .int .u8 0, .int .u8 0] 97)) 3 (.int .i64 32)
   rw [World.size_alloc, World.size_alloc] at h
   exact h.alloc _
  ·exact (((Arr4.word w _ a).alloc _).alloc _).alloc _
  ·have h := Boxed.new (((w.alloc (.cells #[.int .u64 (lim a 0), .int .u64 (lim a 1), .int .u64 (lim a 2), .int .u64 (lim a 3)] 24)).alloc (.cells #[.int .u8 0, .int .u8 0, .int .u8 0, .int .u8 0, .int .u8 0, .int .u8 0, .int .u8 0, .int .u8 0, .int .u8 0, .int .u8 0, .int .u8 0, .int .u8 0, .int .u8 0, .int .u8 0, .int .u8 0, .int .u8 0, .int .u8 0, .int .u8 0, .int .u8 0, .int .u8 0, .int .u8 0, .int .u8 0, .int .u8 0, .int .u8 0, .int .u8 0, .int .u8 0, .int .u8 0, .int .u8 0, .int .u8 0, .int .u8 0, .int .u8 0, .int .u8 0] 97)).alloc (.cells #[.int .i64 32] 3)) 101 (.pointer (some ⟨w.heap.size, 0, none⟩))
   simpa using h
 rw [hW0]
 clear hW0
 refine wpIn_rangeFunc_N1 rfl h1 (gf := 87) (lb := #[.pointer (some ⟨w.heap.size + 1 + 1 + 1, 0, none⟩)]) rfl trivial (enters_of Tryd.func87 (by kernel_rfl) rfl)
  (parts_seq _ (by omega) _ _ (lim a) W0 (by omega) (by omega) hJ0.1.2.2.2.cell (fun j hj => hJ0.1.2.2.1.cell hj)) KeepsAt.trans (KeepsAt.refl _) (KeepsAt.b (by simp; omega)) (fun _ _ => rfl)
  (fun k W => BytSt w a (8 * k) W)
  (fun _ _ _ => False)
  (fun s => BytSt.own w a _ (by omega) (8 * s))
  (fun _ _ _ _ _ hs _ _ => hs)
  hJ0
  (fun k => { tmps := #[.agg #[.int .u64 (lim a 0), .int .u64 (lim a 1), .int .u64 (lim a 2), .int .u64 (lim a 3)], .pointer (some ⟨w.heap.size, 0, none⟩), .string { data := #[] }, .pointer (some ⟨w.heap.size + 1, 0, none⟩), .pointer (some ⟨w.heap.size + 1 + 1, 0, none⟩), undef, .int .u64 (lim a k), .func (.func 87) #[] #[.pointer (some ⟨w.heap.size + 1 + 1 + 1, 0, none⟩)], .int .i64 (k : Int), .int .u64 (lim a k), undef, undef, undef, undef, undef, undef, undef, undef, undef, undef, undef, undef, undef], defers := [] }) ?assign ?body ?done ?stop
 case assign =>
  intro l k W K _ hK
  gi_wp2
  exact hK
 case body =>
  rintro l k W _ hk4 hst
  gi_wp2
  gi_loopw [6, 10] (fun p i wr => ∃ m : Nat, m ≤ 8 ∧ i = .int .i64 m ∧ p = .int .u64 (partAt a k m) ∧ BytSt w a (8 * k + m) wr ∧ KeepsAt [w.heap.size, w.heap.size + 1 + 1 + 1] W wr ∧ KeepsFrom W0.heap.size W wr) (fun p i _ => 8 - (intOf i).toNat)
  case atStart => exact ⟨0, by omega, rfl, rfl, hst, KeepsAt.refl _ _, KeepsFrom.refl _ _⟩
  case round =>
   obtain ⟨m, hm, rfl, rfl, ⟨⟨b1, b2, b3, b4⟩, hB⟩, hKa, hKf⟩ := hrel
   have hl1 := b1.lt
   have hl4 := b4.lt
   by_cases hlt : m < 8
   ·have hu := partAt_u64 a k m
    obtain ⟨hu0, hu1⟩ := hu
    have hby := Lib.hid (partAt_byte a k m hk4 hlt)
    have hps : Hid (partAt a k (m + 1) = partAt a k m / 256) := rfl
    obtain ⟨q, hq⟩ : ∃ q : Nat, q + (8 * k + m) = 31 := ⟨31 - (8 * k + m), by omega⟩
    have c2 := b2.cell
    have f2 := b2.frozen
    rw [show ((32 - (8 * k + m) : Nat) : Int) = (q : Int) + 1 by omega] at c2
    have c1 : wr.cell? ⟨w.heap.size + 1, q, none⟩ = some (outAt a (8 * k + m) q) := b1.cell (by omega)
    have f1 := b1.frozen q
    have hq0 : (0 : Int) ≤ (q : Int) := by omega
    have hq1 : (q : Int) < 32 := by omega
    have hm8 : (m : Int) < 8 := by omega
    have hst' : BytSt w a (8 * k + (m + 1)) ((wr.setCell ⟨w.heap.size + 1 + 1, 0, none⟩ (.int .i64 (q : Int))).setCell ⟨w.heap.size + 1, q, none⟩ (.int .u8 (IntKind.u8.wrap (partAt a k m)))) := by
     refine ⟨⟨?_, ?_, ?_, ?_⟩, (hB.setCell (p := ⟨w.heap.size + 1 + 1, 0, none⟩) (by simp; omega) _).setCell (p := ⟨w.heap.size + 1, q, none⟩) (by simp) _⟩
     ·have h := (b1.setOther (a := ⟨w.heap.size + 1 + 1, 0, none⟩) (by simp) (.int .i64 (q : Int))).set q (.int .u8 (IntKind.u8.wrap (partAt a k m)))
      rw [hby.out, show q = 31 - (8 * k + m) by omega, outAt_succ a (8 * k + m) (by omega)] at h
      rw [hby.out, show q = 31 - (8 * k + m) by omega]
      exact h.congr (fun i hi => (if_pos hi).trans rfl)
     ·have h := Boxed.away (Boxed.set (.int .i64 (q : Int)) b2) (p := ⟨w.heap.size + 1, q, none⟩) (by simp) (.int .u8 (IntKind.u8.wrap (partAt a k m)))
      rw [show ((32 - (8 * k + (m + 1)) : Nat) : Int) = (q : Int) by omega]
      exact h
     ·exact Arr4.other (Arr4.other b3 (by simp; omega) _) (by simp) _
     ·exact Boxed.away (Boxed.away b4 (by simp) _) (by simp; omega) _
    have HS := Lib.hid hst'
    have HB := Lib.hid hB
    clear hst' b1 b2 b3 b4 hst hB hJ0 hq
    gi_wp2
    go_roundw
    case rel => exact ⟨m + 1, by omega, by simp, by rw [hps.out], HS.out, (hKa.setCell (by first | (simp; done) | (simp; omega)) _).setCell (by first | (simp; done) | (simp; omega)) _, (hKf.trans ((KeepsOthers.setCell _ _ _).from _)).trans ((KeepsOthers.setCell _ _ _).from _)⟩
    case measure => simp [intOf]; omega
   ·obtain rfl : m = 8 := by omega
    gi_wp2
    exact ⟨hKf, hKa, ⟨⟨b1, b2, b3, b4⟩, hB⟩⟩
 case done =>
  rintro D W hD ⟨⟨b1, b2, b3, b4⟩, hB⟩ hK
  have hcv := run_convert_bytes_arg (P := Tryd.prog) W 103 5 Tryd.underlying103 Tryd.underlying5 (w.heap.size + 1) 0 32 32 ((List.range 32).map fun j => (byteN a (31 - j) : Int)) (by simp) (fun i hi => by
   have h := b1.cell hi
   rw [Nat.zero_add, h]
   unfold outAt
   rw [if_pos (by omega)]
   simp [hi]) 9 Tryd.underlying9
  have HK := Lib.hid hK
  have HB := Lib.hid hB
  have e : strOfNums ((List.range 32).map fun j => (byteN a (31 - j) : Int)) = bytesOf a := rfl
  rw [e] at hcv
  clear e b1 b2 b3 b4 hK hB hJ0
  gi_wp2
  refine ⟨by simp, .inl ⟨_, _, rfl, run_takeDeferred HK.out, ?_⟩⟩
  exact ⟨_, results_tmp rfl _ _ _, rfl, HB.out.trans (belowK_b (w := w) (Nat.le_refl _) _ D _ _ (by omega) HK.out rfl rfl)⟩
 case stop =>
  rintro D c k W _ _ h _
  exact h.elim
end
section
open Go Go.RowKit Go.BigFrame
def upd {α : Type} (f : Nat → α) (i : Nat) (u : α) : Nat → α := fun j => if j = i then u else f j
theorem upd_self {α : Type} (f : Nat → α) (i : Nat) (u : α) : upd f i u i = u := by simp [upd]
theorem upd_ne {α : Type} (f : Nat → α) {i j : Nat} (u : α) (h : j ≠ i) : upd f i u j = f j := by simp [upd, h]
def putsG (f : Nat → Bool) (g : Nat → Value) : Nat → List Oper → Act → Act
 | _, [], a => a
 | k, o :: l, a => putsG f g (k + 1) l (if f k = true then a.put o.dst (g k) else a)
theorem putsG_congr : ∀ (l : List Oper) (k : Nat) (a : Act) (f f' : Nat → Bool) (g g' : Nat → Value), (∀ j, k ≤ j → j < k + l.length → f j = f' j ∧ (f j = true → g j = g' j)) → putsG f g k l a = putsG f' g' k l a
 | [], _, _, _, _, _, _, _ => rfl
 | o :: l, k, a, f, f', g, g', h => by
  simp only [putsG]
  obtain ⟨h1, h2⟩ := h k (Nat.le_refl _) (by simp)
  have e : (if f k = true then a.put o.dst (g k) else a) = (if f' k = true then a.put o.dst (g' k) else a) := by
   rw [← h1]
   split
   ·rename_i ht; rw [h2 ht]
   ·rfl
  rw [e]
  exact putsG_congr l (k + 1) _ f f' g g' (fun j h3 h4 => h j (by omega) (by simp only [List.length_cons]; omega))
theorem putsG_put : ∀ (l : List Oper) (k : Nat) (a : Act) (d : Option Tmp) (u : Value) (f : Nat → Bool) (g : Nat → Value), (∀ o ∈ l, ∀ e, d = some e → o.dst ≠ some e) → putsG f g k l (a.put d u) = (putsG f g k l a).put d u
 | [], _, _, _, _, _, _, _ => rfl
 | o :: l, k, a, d, u, f, g, h => by
  simp only [putsG]
  have hr := fun b => putsG_put l (k + 1) b d u f g (fun o ho => h o (by simp [ho]))
  split
  ·rw [Act.put_comm a u (g k) (h o (by simp)), hr]
  ·rw [hr]
theorem putsG_fire : ∀ (l : List Oper) (k : Nat) (a : Act) (i : Nat) (o : Oper) (u : Value) (f : Nat → Bool) (g : Nat → Value), l[i]? = some o → f (k + i) = false →
  (∀ j oj, l[j]? = some oj → j ≠ i → ∀ e, o.dst = some e → oj.dst ≠ some e) → putsG (upd f (k + i) true) (upd g (k + i) u) k l a = (putsG f g k l a).put o.dst u
 | [], _, _, _, _, _, _, _, h, _, _ => by simp at h
 | p :: l, k, a, 0, o, u, f, g, h, hf, hd => by
  have hp : p = o := by simpa using h
  subst hp
  have hf' : f k = false := by simpa using hf
  simp only [putsG, Nat.add_zero, upd_self, if_true, hf', Bool.false_eq_true, if_false]
  rw [putsG_put l (k + 1) a p.dst u _ _ (fun q hq e he => by
   obtain ⟨j, hj⟩ := List.getElem?_of_mem hq
   exact hd (j + 1) q (by simpa using hj) (by omega) e he)]
  rw [putsG_congr l (k + 1) a (upd f k true) f (upd g k u) g (fun j h1 h2 => ⟨upd_ne _ _ (by omega), fun _ => upd_ne _ _ (by omega)⟩)]
 | p :: l, k, a, i + 1, o, u, f, g, h, hf, hd => by
  simp only [putsG]
  rw [upd_ne _ _ (show k ≠ k + (i + 1) by omega), upd_ne _ _ (show k ≠ k + (i + 1) by omega)]
  have e : k + (i + 1) = (k + 1) + i := by omega
  rw [e]
  exact putsG_fire l (k + 1) _ i o u f g (by simpa using h) (by rw [← e]; exact hf) (fun j oj hj hne e he => hd (j + 1) oj (by simpa using hj) (by omega) e he)
theorem putsG_agree : ∀ (l : List Oper) (k : Nat) (a a' : Act) (f f' : Nat → Bool) (g g' : Nat → Value) (t : Tmp), a.tmps.size = a'.tmps.size → a.tmps[t]? = a'.tmps[t]? →
  (∀ j oj, l[j]? = some oj → oj.dst = some t → f (k + j) = f' (k + j) ∧ (f (k + j) = true → g (k + j) = g' (k + j))) → (putsG f g k l a).tmps[t]? = (putsG f' g' k l a').tmps[t]?
 | [], _, _, _, _, _, _, _, _, _, h, _ => h
 | o :: l, k, a, a', f, f', g, g', t, hs, h, hj => by
  simp only [putsG]
  refine putsG_agree l (k + 1) _ _ f f' g g' t ?_ ?_ (fun j oj hl hd => by
   have := hj (j + 1) oj (by simpa using hl) hd
   rwa [show k + (j + 1) = k + 1 + j by omega] at this)
  ·have hz : ∀ (b : Act) (u : Value), (b.put o.dst u).tmps.size = b.tmps.size := fun b u => by
    cases o.dst <;> simp [Act.put]
   split <;> split <;> simp only [hz, hs]
  ·by_cases hd : o.dst = some t
   ·obtain ⟨h1, h2⟩ := hj 0 o rfl hd
    simp only [Nat.add_zero] at h1 h2
    rw [← h1]
    split
    ·rename_i hf
     rw [h2 hf]
     simp only [Act.put, hd]
     simp only [Array.getElem?_setIfInBounds_self, hs]
    ·exact h
   ·have hp : ∀ (b : Act) (v : Value), (b.put o.dst v).tmps[t]? = b.tmps[t]? := fun b v => by
     cases ho : o.dst with
     | none => rfl
     | some d =>
      have hne : d ≠ t := fun e => hd (by rw [ho, e])
      simp [Act.put, Array.getElem?_setIfInBounds_ne hne]
    split <;> split <;> simp only [hp, h]
section
variable {P : Program} {md : Region.Mode}
variable {ops : Array Oper} {c : List (Option Value)} {deps : List (List Nat)} {U : (Nat → Bool) → (Nat → Value) → World → Prop} {Q : Exit → Act → World → Prop} {f : Nat → Bool} {g : Nat → Value} {w : World}
theorem wanted_same (o : Oper) (a a' : Act) (h : ∀ t ∈ o.looksAt ops, a.tmps[t]? = a'.tmps[t]?) : Region.wanted o (yielded ops a.tmps) = Region.wanted o (yielded ops a'.tmps) := by
 unfold Region.wanted
 cases hg : o.guard with
 | none => rfl
 | some gw =>
  obtain ⟨q, want⟩ := gw
  have hy : yielded ops a.tmps q = yielded ops a'.tmps q := by
   unfold yielded
   cases ht : (ops[q]?).bind (·.dst) with
   | none => rfl
   | some t =>
    simp only [Option.bind_some]
    rw [h t (by simp [Oper.looksAt, hg, ht])]
  simp only [hy]
theorem exec_same (o : Oper) (hs : ∀ cs b, o.op ≠ .select cs b) (a a' : Act) (h : ∀ t ∈ o.looksAt ops, a.tmps[t]? = a'.tmps[t]?) : execOp a.eval o = execOp a'.eval o :=
 execOp_congr o hs fun x hx => by
  cases x with
  | tmp t =>
   have := h t (List.mem_append_left _ (List.mem_filterMap.2 ⟨.tmp t, by simpa using hx, rfl⟩))
   simp only [Act.eval, Array.getD_eq_getD_getElem?, this]
  | _ => rfl
variable {F : Fence} {m : Nat}
theorem exists_ready' {l : List Oper} (hedges : ∀ (j : Nat) (oj : Oper), l[j]? = some oj → ∀ e ∈ oj.after, Region.binds md e = true → e.on < j) {listed : Array Bool} (hc : Closed md l.toArray listed) : ∀ i, listed.getD i true = false → ∃ j, j ∈ Region.ready md l.toArray listed := by
 intro i
 induction i using Nat.strongRecOn with
 | _ i ih =>
  intro hi
  by_cases h : ∃ oi, l.toArray[i]? = some oi ∧ ∃ e ∈ oi.after, Region.binds md e = true ∧ listed.getD e.on false = false
  ·obtain ⟨oi, hoi, e, he, hb, hf⟩ := h
   have hlt := hedges i oi (by simpa using hoi) e he hb
   have hil : i < listed.size := by
    rw [hc.1]; exact (Array.getElem?_eq_some_iff.1 hoi).1
   exact ih e.on hlt (getD_in (by omega) hf)
  ·refine ⟨i, mem_ready.2 ⟨hi, ?_⟩⟩
   have hil : i < l.toArray.size := by
    rw [← hc.1]
    rcases Nat.lt_or_ge i listed.size with h' | h'
    ·exact h'
    ·simp [Array.getElem?_eq_none h'] at hi
   refine ⟨l.toArray[i], by simp [], fun e he hb => ?_⟩
   cases hl : listed.getD e.on false with
   | true => rfl
   | false => exact absurd ⟨l.toArray[i], by simp [], e, he, hb, hl⟩ h
end
end
section
open Go Go.RowKit
section
variable {P : Program} {md : Region.Mode}
inductive Anc (md : Region.Mode) (ops : Array Oper) : Nat → Nat → Prop
 | one {i j : Nat} (h : Region.waitsFor md ops i j = true) : Anc md ops i j
 | step {i k j : Nat} (h : Region.waitsFor md ops i k = true) (t : Anc md ops k j) : Anc md ops i j
theorem anc_listed {ops : Array Oper} {listed : Array Bool} (hc : Closed md ops listed) {i j : Nat} (h : Anc md ops i j) : listed.getD i false = true → listed.getD j false = true := by
 induction h with
 | one h => exact fun hl => closed_waits hc hl h
 | step h _ ih => exact fun hl => ih (closed_waits hc hl h)
theorem anc_ready {ops : Array Oper} {listed : Array Bool} (hc : Closed md ops listed) {i j : Nat} (h : Anc md ops i j) (hr : i ∈ Region.ready md ops listed) : listed.getD j false = true := by
 cases h with
 | one h => exact ready_waits hr h
 | step h t => exact anc_listed hc t (ready_waits hr h)
structure QuickOk (md : Region.Mode) (l : List Oper) : Prop where
 sel : ∀ (j : Nat) (o : Oper) cs b, l[j]? = some o → o.op ≠ .select cs b
 edges : ∀ (j : Nat) (oj : Oper), l[j]? = some oj → ∀ e ∈ oj.after, Region.binds md e = true → e.on < j
 looks : ∀ (i j : Nat) (oi oj : Oper), l[i]? = some oi → l[j]? = some oj → ∀ d, oj.dst = some d → d ∈ oi.looksAt l.toArray → j < i ∧ Anc md l.toArray i j
 dsts : ∀ (i j : Nat) (oi oj : Oper), l[i]? = some oi → l[j]? = some oj → j ≠ i → ∀ d, oi.dst = some d → oj.dst ≠ some d
def dstBit (o : Oper) : Nat := match o.dst with | some d => 2 ^ d | none => 0
def allBits : List Oper → Nat
 | [] => 0
 | o :: l => dstBit o ||| allBits l
def upBits (md : Region.Mode) (i : Nat) (ms : List Nat) : List Edge → Nat
 | [] => 0
 | e :: r => (if Region.binds md e then ms.getD (i - 1 - e.on) 0 else 0) ||| upBits md i ms r
def looksOp (ops : Array Oper) (o : Oper) (W m : Nat) : Bool := (o.looksAt ops).all fun t => !W.testBit t || m.testBit t
def quickGo (md : Region.Mode) (ops : Array Oper) (W : Nat) : Nat → List Oper → List Nat → Nat → Bool
 | _, [], _, _ => true
 | i, o :: l, ms, seen =>
  (match o.op with | .select .. => false | _ => true) &&
  (o.after.toList.all fun e => !Region.binds md e || decide (e.on < i)) &&
  (match o.dst with | some d => !seen.testBit d | none => true) &&
  (let m := upBits md i ms o.after.toList
   looksOp ops o W m && quickGo md ops W (i + 1) l ((m ||| dstBit o) :: ms) (seen ||| dstBit o))
def quickB (md : Region.Mode) (l : List Oper) : Bool := quickGo md l.toArray (allBits l) 0 l [] 0
theorem dstBit_spec {o : Oper} {t : Nat} : (dstBit o).testBit t = true ↔ o.dst = some t := by
 unfold dstBit
 cases o.dst with
 | none => simp
 | some d => rw [Nat.testBit_two_pow]; simp
theorem allBits_spec : ∀ (l : List Oper) (t : Nat), (allBits l).testBit t = true ↔ ∃ (j : Nat) (o : Oper), l[j]? = some o ∧ o.dst = some t
 | [], t => by simp [allBits]
 | o :: l, t => by
  rw [allBits, Nat.testBit_or, Bool.or_eq_true, dstBit_spec, allBits_spec l t]
  constructor
  ·rintro (h | ⟨j, p, hj, hp⟩)
   ·exact ⟨0, o, rfl, h⟩
   ·exact ⟨j + 1, p, by simpa using hj, hp⟩
  ·rintro ⟨j, p, hj, hp⟩
   cases j with
   | zero =>
    left
    have : o = p := by simpa using hj
    rw [this]
    exact hp
   | succ j => exact .inr ⟨j, p, by simpa using hj, hp⟩
def MaskOk (md : Region.Mode) (l : List Oper) (k m : Nat) : Prop := ∀ t, m.testBit t = true → ∃ (j : Nat) (oj : Oper), l[j]? = some oj ∧ oj.dst = some t ∧ j ≤ k ∧ (j = k ∨ Anc md l.toArray k j)
theorem upBits_spec {l : List Oper} {i : Nat} {ms : List Nat} (hms : ∀ k, k < i → MaskOk md l k (ms.getD (i - 1 - k) 0)) : ∀ (es : List Edge), (∀ e ∈ es, Region.binds md e = true → e.on < i) → ∀ t, (upBits md i ms es).testBit t = true →
  ∃ e ∈ es, Region.binds md e = true ∧ ∃ (j : Nat) (oj : Oper), l[j]? = some oj ∧ oj.dst = some t ∧ j ≤ e.on ∧ (j = e.on ∨ Anc md l.toArray e.on j)
 | [], _, t, h => by simp [upBits] at h
 | e :: r, he, t, h => by
  rw [upBits, Nat.testBit_or, Bool.or_eq_true] at h
  rcases h with h | h
  ·by_cases hb : Region.binds md e = true
   ·rw [if_pos hb] at h
    exact ⟨e, by simp, hb, hms e.on (he e (by simp) hb) t h⟩
   ·rw [if_neg hb] at h; simp at h
  ·obtain ⟨e', he', rest⟩ := upBits_spec hms r (fun x hx => he x (by simp [hx])) t h
   exact ⟨e', by simp [he'], rest⟩
theorem quickGo_spec {l : List Oper} : ∀ (r : List Oper) (i : Nat) (ms : List Nat) (seen : Nat), (∀ j, r[j]? = l[i + j]?) → (∀ k, k < i → MaskOk md l k (ms.getD (i - 1 - k) 0)) →
  (∀ (j : Nat) (oj : Oper), j < i → l[j]? = some oj → ∀ d, oj.dst = some d → seen.testBit d = true) → quickGo md l.toArray (allBits l) i r ms seen = true →
  ∀ (k : Nat) (o : Oper), i ≤ k → l[k]? = some o → (∀ cs b, o.op ≠ .select cs b) ∧ (∀ e ∈ o.after, Region.binds md e = true → e.on < k) ∧
   (∀ (j : Nat) (oj : Oper), l[j]? = some oj → ∀ d, oj.dst = some d → d ∈ o.looksAt l.toArray → ∃ (j' : Nat) (oj' : Oper), l[j']? = some oj' ∧ oj'.dst = some d ∧ j' < k ∧ Anc md l.toArray k j') ∧
   (∀ (j : Nat) (oj : Oper), j < k → l[j]? = some oj → ∀ d, o.dst = some d → oj.dst ≠ some d)
 | [], i, ms, seen, hr, _, _, _, k, o, hk, ho => by
  have := hr (k - i)
  rw [show i + (k - i) = k by omega, ho] at this
  simp at this
 | p :: r, i, ms, seen, hr, hms, hseen, h, k, o, hk, ho => by
  have h0 : l[i]? = some p := by simpa using (hr 0).symm
  rw [quickGo] at h
  simp only [Bool.and_eq_true] at h
  obtain ⟨⟨⟨h1, h2⟩, h3⟩, h4, h5⟩ := h
  have hes : ∀ e ∈ p.after.toList, Region.binds md e = true → e.on < i := fun e he hb => by
   have := List.all_eq_true.1 h2 e he
   rw [hb] at this
   simpa using this
  have hup := upBits_spec (md := md) (l := l) hms p.after.toList hes
  rcases Nat.eq_or_lt_of_le hk with rfl | hlt
  ·have : o = p := Option.some.inj (ho.symm.trans h0)
   subst this
   refine ⟨fun cs b e => ?_, fun e he => hes e (by simpa using he), fun j oj hj d hd hin => ?_, fun j oj hjk hj d hd hd' => ?_⟩
   ·rw [e] at h1
    cases h1
   ·have := List.all_eq_true.1 h4 d hin
    rw [(allBits_spec l d).2 ⟨j, oj, hj, hd⟩] at this
    obtain ⟨e, he, hb, j', oj', hj', hd', hle, hor⟩ := hup d (by simpa using this)
    have hlt := hes e he hb
    have hw : Region.waitsFor md l.toArray i e.on = true := by
     unfold Region.waitsFor
     simp only [List.getElem?_toArray, h0]
     exact Array.any_eq_true'.2 ⟨e, by simpa using he, by simp [hb]⟩
    refine ⟨j', oj', hj', hd', by omega, ?_⟩
    rcases hor with rfl | ha
    ·exact .one hw
    ·exact .step hw ha
   ·rw [hd] at h3
    simp only [] at h3
    rw [hseen j oj hjk hj d hd'] at h3
    cases h3
  ·refine quickGo_spec r (i + 1) _ _ (fun j => ?_) (fun k' hk' => ?_) (fun j oj hj hl d hd => ?_) h5 k o hlt ho
   ·have := hr (j + 1)
    rw [show i + (j + 1) = i + 1 + j by omega] at this
    simpa using this
   ·rcases Nat.lt_succ_iff_lt_or_eq.1 hk' with h' | rfl
    ·rw [show i + 1 - 1 - k' = (i - 1 - k') + 1 by omega, List.getD_cons_succ]
     exact hms k' h'
    ·rw [show k' + 1 - 1 - k' = 0 by omega, List.getD_cons_zero]
     intro t ht
     rw [Nat.testBit_or, Bool.or_eq_true] at ht
     rcases ht with ht | ht
     ·obtain ⟨e, he, hb, j', oj', hj', hd', hle, hor⟩ := hup t ht
      have hlt := hes e he hb
      have hw : Region.waitsFor md l.toArray k' e.on = true := by
       unfold Region.waitsFor
       simp only [List.getElem?_toArray, h0]
       exact Array.any_eq_true'.2 ⟨e, by simpa using he, by simp [hb]⟩
      refine ⟨j', oj', hj', hd', by omega, .inr ?_⟩
      rcases hor with rfl | ha
      ·exact .one hw
      ·exact .step hw ha
     ·exact ⟨k', p, h0, dstBit_spec.1 ht, Nat.le_refl _, .inl rfl⟩
   ·rw [Nat.testBit_or, Bool.or_eq_true]
    rcases Nat.lt_succ_iff_lt_or_eq.1 hj with h' | rfl
    ·exact .inl (hseen j oj h' hl d hd)
    ·have : oj = p := Option.some.inj (hl.symm.trans h0)
     subst this
     exact .inr (dstBit_spec.2 hd)
theorem quickOk {l : List Oper} (h : quickB md l = true) : QuickOk md l := by
 have S := quickGo_spec (md := md) (l := l) l 0 [] 0 (fun j => by simp) (fun k hk => by omega) (fun j _ hj => by omega) h
 have D : ∀ (i j : Nat) (oi oj : Oper), l[i]? = some oi → l[j]? = some oj → j ≠ i → ∀ d, oi.dst = some d → oj.dst ≠ some d := fun i j oi oj hi hj hne d hd hd' => by
  rcases Nat.lt_or_gt_of_ne hne with hlt | hlt
  ·exact (S i oi (Nat.zero_le _) hi).2.2.2 j oj hlt hj d hd hd'
  ·exact (S j oj (Nat.zero_le _) hj).2.2.2 i oi hlt hi d hd' hd
 refine ⟨fun j o cs b hj => (S j o (Nat.zero_le _) hj).1 cs b, fun j oj hj => (S j oj (Nat.zero_le _) hj).2.1, fun i j oi oj hi hj d hd hin => ?_, D⟩
 obtain ⟨j', oj', hj', hd', hlt, ha⟩ := (S i oi (Nat.zero_le _) hi).2.2.1 j oj hj d hd hin
 by_cases e : j = j'
 ·subst e; exact ⟨hlt, ha⟩
 ·exact absurd hd (D j' j oj' oj hj' hj e d hd')
variable {C : World → Prop} {F : Fence} {m : Nat}
theorem vals_of_walk {l : List Oper} {a0 : Act} {R : Act → Prop} (hd : ∀ (i j : Nat) (oi oj : Oper), l[i]? = some oi → l[j]? = some oj → j ≠ i → ∀ d, oi.dst = some d → oj.dst ≠ some d) :
  ∀ (t : List Oper) (k : Nat) (vs : Nat → Value), (∀ j, t[j]? = l[k + j]?) → k + t.length = l.length → wpQuiet P l.toArray C R t (putsG (fun j => decide (j < k)) vs 0 l a0) →
  ∃ vs' : Nat → Value, (∀ j, j < k → vs' j = vs j) ∧ (∀ (i : Nat) (o : Oper), k ≤ i → l[i]? = some o → YieldsIn P l.toArray C o (vs' i) (putsG (fun j => decide (j < i)) vs' 0 l a0)) ∧ R (putsG (fun j => decide (j < l.length)) vs' 0 l a0)
 | [], k, vs, hl, hk, h => by
  simp only [List.length_nil, Nat.add_zero] at hk
  subst hk
  refine ⟨vs, fun _ _ => rfl, fun i o hi ho => ?_, h⟩
  rw [List.getElem?_eq_none hi] at ho
  cases ho
 | o :: t, k, vs, hl, hk, h => by
  have h0 : l[k]? = some o := by simpa using (hl 0).symm
  have hq : qOp P l.toArray C k (wpQuiet P l.toArray C R t) (putsG (fun j => decide (j < k)) vs 0 l a0) := by
   unfold qOp
   simp only [List.getElem?_toArray, h0]
   exact h
  obtain ⟨v, hy, hK⟩ := yieldsIn_of_qOp (by simpa using h0) hq
  have hfire := putsG_fire l 0 a0 k o v (fun j => decide (j < k)) vs h0 (by simp) (fun j oj hj hne => hd k j o oj h0 hj hne)
  rw [Nat.zero_add] at hfire
  have hput : putsG (upd (fun j => decide (j < k)) k true) (upd vs k v) 0 l a0 = putsG (fun j => decide (j < k + 1)) (upd vs k v) 0 l a0 := by
   refine putsG_congr l 0 a0 _ _ _ _ (fun j _ _ => ⟨?_, fun _ => rfl⟩)
   by_cases hj : j = k
   ·subst hj; rw [upd_self]; simp
   ·rw [upd_ne _ _ hj]; exact decide_eq_decide.2 (by omega)
  rw [← hfire, hput] at hK
  obtain ⟨vs', h1, h2, h3⟩ := vals_of_walk hd t (k + 1) (upd vs k v) (fun j => by have := hl (j + 1); simpa [Nat.add_assoc, Nat.add_comm 1 j] using this) (by simp only [List.length_cons] at hk; omega) hK
  refine ⟨vs', fun j hj => by rw [h1 j (by omega), upd_ne _ _ (by omega)], fun i oi hi ho => ?_, h3⟩
  rcases Nat.eq_or_lt_of_le hi with rfl | hlt
  ·have : oi = o := Option.some.inj (ho.symm.trans h0)
   subst this
   rw [h1 k (by omega), upd_self]
   rw [putsG_congr l 0 a0 (fun j => decide (j < k)) (fun j => decide (j < k)) vs' vs (fun j _ _ => ⟨rfl, fun hj => by
    have hj' : j < k := by simpa using hj
    rw [h1 j (by omega), upd_ne _ _ (by omega)]⟩)]
   exact hy
  ·exact h2 i oi hlt ho
theorem quick_main (hF : Free F) {l : List Oper} {a0 : Act} {vs : Nat → Value} {Q : Exit → Act → World → Prop} (ok : QuickOk md l) (hnd : ∀ o ∈ l, ∀ q, o.op ≠ .defer q)
  (hy : ∀ (i : Nat) (o : Oper), l[i]? = some o → YieldsIn P l.toArray C o (vs i) (putsG (fun j => decide (j < i)) vs 0 l a0)) (hQ : ∀ w, C w → Q .normal (putsG (fun j => decide (j < l.length)) vs 0 l a0) w) :
  ∀ (fuel : Nat) (V : List Nat) (listed : Array Bool) (w : World), V.Nodup → (∀ i, i ∈ V ↔ listed.getD i true = false) → V.length = fuel → Closed md l.toArray listed → C w →
   wpAnyIn F m P md l.toArray Q fuel listed (putsG (fun j => listed.getD j false) vs 0 l a0) w := by
 intro fuel
 induction fuel with
 | zero =>
  intro V listed w hV hVm hVl hc hC
  have hnil : V = [] := List.eq_nil_of_length_eq_zero hVl
  subst hnil
  have hall : ∀ i, listed.getD i true = true := fun i => by
   cases hi : listed.getD i true with
   | true => rfl
   | false => have := (hVm i).2 hi; cases this
  refine ⟨?_, ?_⟩
  ·apply List.eq_nil_iff_forall_not_mem.2
   intro j hj
   have := (mem_ready.1 hj).1
   rw [hall] at this; cases this
  ·rw [putsG_congr l 0 a0 (fun j => listed.getD j false) (fun j => decide (j < l.length)) vs vs (fun j _ hj => ⟨?_, fun _ => rfl⟩)]
   ·exact hQ w hC
   ·cases hi : listed.getD j false with
    | true => simp; omega
    | false => have := getD_in (by rw [hc.1]; simpa using (show j < l.length by omega)) hi; rw [hall] at this; cases this
 | succ fuel ih =>
  intro V listed w hV hVm hVl hc hC
  refine ⟨fun h0 => ?_, fun i hir => ?_⟩
  ·obtain ⟨j, hj⟩ : ∃ j, j ∈ V := by
    cases V with
    | nil => cases hVl
    | cons x r => exact ⟨x, by simp⟩
   obtain ⟨k, hk⟩ := exists_ready' ok.edges hc j ((hVm j).1 hj)
   rw [h0] at hk; cases hk
  ·obtain ⟨hun, oi, hoi, hall⟩ := mem_ready.1 hir
   have hoi' : l[i]? = some oi := by simpa using hoi
   have hilt : i < l.length := (List.getElem?_eq_some_iff.1 hoi').1
   have hiV : i ∈ V := (hVm i).2 hun
   have hV' : (V.erase i).Nodup := hV.erase i
   have hVm' : ∀ j, j ∈ V.erase i ↔ (listed.setIfInBounds i true).getD j true = false := fun j => by
    by_cases hji : j = i
    ·subst hji
     rw [getD_set_true']
     simp [hV.not_mem_erase]
    ·rw [List.mem_erase_of_ne hji, hVm j, getD_set_ne true (Ne.symm hji)]
   have hVl' : (V.erase i).length = fuel := by rw [List.length_erase_of_mem hiV, hVl]; rfl
   have hc' := hc.set hir
   have hom : oi ∈ l := List.mem_of_getElem? hoi'
   have hfi : listed.getD i false = false := getD_both hun
   have hflag : (fun j => (listed.setIfInBounds i true).getD j false) = upd (fun j => listed.getD j false) i true := by
    funext j
    by_cases hji : j = i
    ·subst hji
     rw [upd_self]
     have : j < listed.size := by rw [hc.1]; simpa using hilt
     simp [this]
    ·rw [upd_ne _ _ hji, getD_set_ne false (Ne.symm hji)]
   have htm : ∀ t ∈ oi.looksAt l.toArray, (putsG (fun j => listed.getD j false) vs 0 l a0).tmps[t]? = (putsG (fun j => decide (j < i)) vs 0 l a0).tmps[t]? := fun t ht => by
    refine putsG_agree l 0 a0 a0 _ _ _ _ t rfl rfl (fun j oj hj hd => ?_)
    obtain ⟨hlt, ha⟩ := ok.looks i j oi oj hoi' hj t hd ht
    rw [Nat.zero_add]
    exact ⟨by show listed.getD j false = decide (j < i); rw [anc_ready hc ha hir, decide_eq_true hlt], fun _ => rfl⟩
   have hya := (hy i oi hoi').of_same (exec_same oi (fun cs b => ok.sel i oi cs b hoi') _ _ htm) (wanted_same oi _ _ htm)
   have hfire := putsG_fire l 0 a0 i oi (vs i) (fun j => listed.getD j false) vs hoi' (by rw [Nat.zero_add]; exact hfi) (fun j oj hj hne => ok.dsts i j oi oj hoi' hj hne)
   rw [Nat.zero_add] at hfire
   have hself : upd vs i (vs i) = vs := by
    funext j
    by_cases hji : j = i
    ·subst hji; rw [upd_self]
    ·rw [upd_ne _ _ hji]
   rw [hself, ← hflag] at hfire
   refine wpOpIn_of_qOpF (C := C) hF (by simpa using hnd) hC (K := fun a' => a' = putsG (fun j => (listed.setIfInBounds i true).getD j false) vs 0 l a0) (fun a' w' hw' e => by subst e; exact ih _ _ w' hV' hVm' hVl' hc' hw') ?_
   exact hya.qOp hoi hfire.symm
theorem wpIn_region_quick (hF : Free F) {id : Nat} {Q : Exit → Act → World → Prop} {a : Act} {w : World} {l : List Oper} (hm : P.follows .mixedOrders = true) (hnd : noDefer l = true) (hB : quickB .any l = true)
  (hC : C { w with drawn := w.drawn + 1 }) (h : wpQuiet P l.toArray C (fun a' => ∀ w', C w' → Q .normal a' w') l a) : (Code.region id l.toArray true).wpIn F m P Q a w := by
 have ok := quickOk hB
 have h00 : ∀ (vs : Nat → Value) (t : List Oper) k, putsG (fun _ => false) vs k t a = a := by
  intro vs t
  induction t with
  | nil => intro k; rfl
  | cons o t ih => intro k; simp only [putsG, Bool.false_eq_true, if_false]; exact ih _
 have e0 : ∀ vs : Nat → Value, putsG (fun j => decide (j < 0)) vs 0 l a = a := fun vs => by
  rw [putsG_congr l 0 a (fun j => decide (j < 0)) (fun _ => false) vs vs (fun j _ _ => ⟨by simp, fun _ => rfl⟩)]
  exact h00 vs l 0
 obtain ⟨vs, _, hy, hQ⟩ := vals_of_walk (C := C) (a0 := a) ok.dsts l 0 (fun _ => undef) (fun j => by simp) (by simp) (by rw [e0]; exact h)
 refine wpIn_region_any hm ?_
 have hf0 : (fun j => (Array.replicate l.toArray.size false).getD j false) = fun _ => false := by funext j; exact getD_replicate_false _ _
 have := quick_main (m := m) (C := C) (Q := Q) hF ok (noDefer_spec hnd) (fun i o ho => hy i o (Nat.zero_le _) ho) hQ l.toArray.size (List.range l.toArray.size) (Array.replicate l.toArray.size false) { w with drawn := w.drawn + 1 } List.nodup_range (fun i => ?_) (by simp) ⟨by simp, fun j oj _ hl => ?_⟩ hC
 ·rw [hf0, h00] at this
  exact this
 ·rw [List.mem_range]
  rcases Nat.lt_or_ge i l.toArray.size with h | h
  ·exact ⟨fun _ => getD_in (by simpa using h) (getD_replicate_false _ _), fun _ => h⟩
  ·refine ⟨fun h' => absurd h' (by omega), fun h' => ?_⟩
   simp only [List.size_toArray] at h
   simp [Array.getD, show ¬ i < l.length by omega] at h'
 ·rw [getD_replicate_false] at hl; cases hl
theorem wp_region_quick {id : Nat} {Q : Exit → Act → World → Prop} {a : Act} {w : World} {l : List Oper} (hm : P.follows .mixedOrders = true) (hnd : noDefer l = true) (hB : quickB .any l = true)
  (hC : C { w with drawn := w.drawn + 1 }) (h : wpQuiet P l.toArray C (fun a' => ∀ w', C w' → Q .normal a' w') l a) : (Code.region id l.toArray true).wp P Q a w :=
 wpIn_wide.1 (wpIn_region_quick (m := 0) free_wide hm hnd hB hC h)
end
abbrev W4 (a b c d : Int) : Value := .agg #[.int .u64 a, .int .u64 b, .int .u64 c, .int .u64 d]
theorem eq4 (a b c d a' b' c' d' : Int) (w : World) : (Op.equalIn 10000 24 (.agg #[.int .u64 a, .int .u64 b, .int .u64 c, .int .u64 d]) (.agg #[.int .u64 a', .int .u64 b', .int .u64 c', .int .u64 d'])).run Tryd.prog w = .ok (a == a' && b == b' && c == c' && d == d') w := by
 have u3 := Tryd.underlying22
 have a3 := Tryd.isAgg22
 have z3 := Tryd.sizeOf22
 rw [show (10000 : Nat) = 9999 + 1 from rfl, Op.equalIn]
 simp only [Sem.run_bind, run_underlying Tryd.underlying24, Result.andThen_ok]
 simp only [Std.Legacy.Range.forIn_eq_forIn_range', Std.Legacy.Range.size, Nat.sub_zero, Nat.add_sub_cancel, Nat.div_one, List.range'_succ, List.range'_zero, List.forIn_cons, List.forIn_nil]
 go_simp
 by_cases h1 : a = a' <;> by_cases h2 : b = b' <;> by_cases h3 : c = c' <;> by_cases h4 : d = d' <;> simp [h1, h2, h3, h4]
def Has (W : World) (B : Nat) (t : TypeId) (cs : Array Value) : Prop := W.heap[B]? = some (.cells cs t (0, 0))
theorem Has.lt {W : World} {B : Nat} {t : TypeId} {cs : Array Value} (h : Has W B t cs) : B < W.heap.size := (Array.getElem?_eq_some_iff.1 h).1
theorem Has.cell {W : World} {B : Nat} {t : TypeId} {cs : Array Value} (h : Has W B t cs) (j : Nat) (v : Value) (hj : cs[j]? = some v) : W.cell? ⟨B, j, none⟩ = some v := by
 unfold Has at h
 simp [World.cell?, h, hj]
theorem Has.frozen {W : World} {B : Nat} {t : TypeId} {cs : Array Value} (h : Has W B t cs) (j : Nat) : W.frozen? ⟨B, j, none⟩ = false := by
 unfold Has at h
 simp [World.frozen?, h]
theorem Has.new (W : World) (t : TypeId) (cs : Array Value) : Has (W.alloc (.cells cs t)) W.heap.size t cs := World.alloc_heap_new W _
theorem Has.below {W W' : World} {B n : Nat} {t : TypeId} {cs : Array Value} (h : Has W B t cs) (hb : Below n W W') (hn : B < n) : Has W' B t cs := (hb.block B hn).trans h
theorem Has.later {W W' : World} {B : Nat} {t : TypeId} {cs : Array Value} (h : Has W B t cs) (hb : Below W.heap.size W W') : Has W' B t cs := h.below hb h.lt
theorem Has.alloc {W : World} {B : Nat} {t : TypeId} {cs : Array Value} (h : Has W B t cs) (o : Obj) : Has (W.alloc o) B t cs := h.later ((Below.refl _ W).alloc (Nat.le_refl _) o)
theorem Has.other {W : World} {B : Nat} {t : TypeId} {cs : Array Value} (h : Has W B t cs) {p : Addr} (hne : B ≠ p.block) (v : Value) : Has (W.setCell p v) B t cs := (Below.heap_setCell W p v B hne).trans h
theorem Has.set {W : World} {B : Nat} {t : TypeId} {cs : Array Value} (h : Has W B t cs) (k : Nat) (v : Value) : Has (W.setCell ⟨B, k, none⟩ v) B t (cs.setIfInBounds k v) := by
 obtain ⟨hlt, he⟩ := Array.getElem?_eq_some_iff.1 h
 show (W.heap.modify B _)[B]? = _
 rw [Array.getElem?_eq_getElem (by rw [Array.size_modify]; exact hlt), Array.getElem_modify_self, he]
 rfl
theorem wp_region_quietL {P : Program} {C : World → Prop} {id : Nat} {Q : Exit → Act → World → Prop} {a : Act} {w : World} {l : List Oper} (hm : P.follows .mixedOrders = true) (hB : Region.lexB .any l.toArray = true)
  (hC : C { w with drawn := w.drawn + 1 }) (h : wpQuiet P l.toArray C (fun a' => ∀ w', C w' → Q .normal a' w') l a) : (Code.region id l.toArray true).wp P Q a w :=
 wp_region_quiet (C := C) hm hB hC (by simpa using h)
theorem Ret.of_eq {P : Program} {f : FuncId} {args args' : Array Value} {v v' : Value} (h : Ret P f args v) (ha : args = args') (hv : v = v') : Ret P f args' v' := by subst ha; subst hv; exact h
theorem newA (w : World) (o : Obj) : Below w.heap.size w (w.alloc o) := (Below.refl w.heap.size w).alloc (Nat.le_refl _) o
theorem sT {α : Type} (l : List α) (i : Nat) (a : α) : l.toArray.setIfInBounds i a = (l.set i a).toArray := List.setIfInBounds_toArray l i a
theorem sS {α : Type} {x : α} {xs : List α} {i : Nat} {a : α} : (x :: xs).set (i + 1) a = x :: xs.set i a := List.set_cons_succ
theorem sZ {α : Type} {x : α} {xs : List α} {a : α} : (x :: xs).set 0 a = a :: xs := List.set_cons_zero
theorem hid {p : Prop} (h : p) : RowKit.Hid p := Lib.hid h
theorem newBox (w : World) (t : TypeId) (cs : Array Value) : ∃ V, w.alloc (.cells cs t) = V ∧ Has V w.heap.size t cs ∧ Below w.heap.size w V := ⟨_, rfl, Has.new w t cs, (Below.refl w.heap.size w).alloc (Nat.le_refl _) (.cells cs t)⟩
end
section
open Go Go.RowKit
attribute [local go_sem] Oper.semAt_some Grows wide_fn
def pickN (c m : Int) : Int := (if c < 0 then -(c + 1) else c) % m
theorem pickN_range (c m : Int) (hm : 0 < m) : 0 ≤ pickN c m ∧ pickN c m < m := by
 unfold pickN
 exact ⟨Int.emod_nonneg _ (by omega), Int.emod_lt_of_pos _ hm⟩
theorem ofN_nat (n : Nat) : ofN (n : Int) = n := by unfold ofN; rw [if_neg (by omega)]; omega
theorem pick_ret (c : Int) (hc : I64 c) (m : Int) (hm : 0 < m) (hm2 : m ≤ 4611686018427387903) : Ret Tryd.prog 10 #[.int .i64 c, .int .i64 m] (.int .i64 (pickN c m)) := by
 refine Ret.of_same fun w => ?_
 unfold I64 at hc
 unfold pickN
 by_cases h : c < 0
 ·rw [if_pos h]
  have h0 : (0 : Int) ≤ -(c + 1) := by omega
  have h1 : -(c + 1) < 9223372036854775808 := by omega
  have q0 := Int.emod_nonneg (-(c + 1)) (show m ≠ 0 by omega)
  have q1 := Int.emod_lt_of_pos (-(c + 1)) hm
  have e := Int.tmod_eq_emod_of_nonneg h0 (b := m)
  go_enter Tryd.func10, Tryd.ntmps10
  go_wp2
  go_ret
  exact ⟨rfl, rfl⟩
 ·rw [if_neg h]
  have q0 := Int.emod_nonneg c (show m ≠ 0 by omega)
  have q1 := Int.emod_lt_of_pos c hm
  have e := Int.tmod_eq_emod_of_nonneg (show 0 ≤ c by omega) (b := m)
  go_enter Tryd.func10, Tryd.ntmps10
  go_wp2
  go_ret
  exact ⟨rfl, rfl⟩
end
section
open Go
def limI (x a b : Int) : Int := if x < a then a else if b < x then b else x
theorem limI_range (x a b : Int) (h : a ≤ b) : a ≤ limI x a b ∧ limI x a b ≤ b := by unfold limI; split <;> (try split) <;> omega
def manyN (n : Int) : Int := limI n 0 1048576
theorem manyN_range (n : Int) : 0 ≤ manyN n ∧ manyN n ≤ 1048576 := limI_range _ _ _ (by decide)
def wordsN (n : Int) : Int := (manyN n + 31) / 32
theorem wordsN_range (n : Int) : 0 ≤ wordsN n ∧ wordsN n ≤ 32768 := by have := manyN_range n; unfold wordsN; omega
theorem manyN_in {n : Int} (h0 : 0 ≤ n) (h1 : n ≤ 1048576) : manyN n = n := by unfold manyN limI; rw [if_neg (by omega), if_neg (by omega)]
def initN (n : Int) (salted : Bool) : Int := 2 * wordsN n + (if salted then 6 * wordsN n else 0)
theorem initN_range (n : Int) (s : Bool) : 0 ≤ initN n s ∧ initN n s ≤ 262144 := by have := wordsN_range n; unfold initN; split <;> omega
def touchN (slot warm : Bool) : Int := if warm then 100 else if slot then 2100 else 2600
def backN (used refund : Int) : Int := limI refund 0 ((if used < 0 then 0 else used) / 5)
def firstN (o : Nat) : Int := if o = 0 then 20000 else 2900
def writtenN (o c v : Nat) : Int := if c = v ∨ o ≠ c then 100 else firstN o
def clearedN (o c v : Nat) : Int := if o = 0 then 0 else if c = 0 then -4800 else if v = 0 then 4800 else 0
def restoredN (o c v : Nat) : Int := if o = c ∨ o ≠ v then 0 else firstN o - 100
def refundedN (o c v : Nat) : Int := if c = v then 0 else clearedN o c v + restoredN o c v
def costN (o c v : Nat) (warm : Bool) : Int := writtenN o c v + (if warm then 0 else 2100)
def storeV (o c v : Nat) (warm : Bool) : Value := .tuple #[.int .i64 (costN o c v warm), .int .i64 (refundedN o c v)]
theorem firstN_cases (o : Nat) : firstN o = 20000 ∨ firstN o = 2900 := by unfold firstN; split <;> omega
theorem writtenN_range (o c v : Nat) : 100 ≤ writtenN o c v ∧ writtenN o c v ≤ 20000 := by have := firstN_cases o; unfold writtenN; split <;> omega
theorem refundedN_range (o c v : Nat) : -4800 ≤ refundedN o c v ∧ refundedN o c v ≤ 19900 := by
 unfold refundedN clearedN restoredN firstN
 split
 ·omega
 ·split
  ·split <;> omega
  ·split
   ·split <;> omega
   ·split <;> split <;> omega
def callingN (warm value fresh : Bool) : Int := (if warm then 100 else 2600) + (if value then 9000 else 0) + (if value && fresh then 25000 else 0)
theorem callingN_range (a b c : Bool) : 100 ≤ callingN a b c ∧ callingN a b c ≤ 36600 := by cases a <;> cases b <;> cases c <;> decide
def mostN (rest : Int) : Int := rest - rest / 64
def ownN (rest : Int) (asked : Nat) : Nat := min asked (mostN rest).toNat
def callV (left : Int) (asked : Nat) (warm value fresh : Bool) : Value :=
 if left < callingN warm value fresh ∨ 9007199254740992 < left then .tuple #[.int .i64 0, .int .i64 0, .bool false]
 else .tuple #[.int .i64 (callingN warm value fresh + (ownN (left - callingN warm value fresh) asked : Nat)), .int .i64 ((ownN (left - callingN warm value fresh) asked : Nat) + (if value then 2300 else 0)), .bool true]
end
end Go.Proofs.YtlihnlkcgiopoaaDoor
