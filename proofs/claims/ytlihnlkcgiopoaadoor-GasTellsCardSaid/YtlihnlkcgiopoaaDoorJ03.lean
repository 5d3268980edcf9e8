/- Part. -/
import Derived.Deep.OwnRows
import Derived.Laws.BytesArg
import Derived.Test.YtlihnlkcgiopoaaDoorJ02
import Derived.Test.YtlihnlkcgiopoaaDoorJ01
set_option maxRecDepth 100000
set_option maxHeartbeats 16000000
namespace Go.Proofs.YtlihnlkcgiopoaaDoor
section
open Go Go.RowKit Go.Shelf
attribute [local go_sem] Oper.semAt_some Grows wide_fn
def byteN (a t : Nat) : Nat := a / 256 ^ t % 256
theorem byteN_lt (a t : Nat) : byteN a t < 256 := Nat.mod_lt _ (by decide)
theorem byteN_lim (a k i : Nat) (hk : k < 4) (hi : i < 8) : (lim a k / 256 ^ i) % 256 = (byteN a (8 * k + i) : Int) := by
 unfold byteN
 have h : ∀ x : Nat, ((x % 18446744073709551616 : Nat) : Int) / 256 ^ i % 256 = ((x / 256 ^ i % 256 : Nat) : Int) := by
  intro x
  have : i = 0 ∨ i = 1 ∨ i = 2 ∨ i = 3 ∨ i = 4 ∨ i = 5 ∨ i = 6 ∨ i = 7 := by omega
  rcases this with rfl | rfl | rfl | rfl | rfl | rfl | rfl | rfl <;> simp only [Nat.reducePow, Int.reducePow] <;> omega
 match k, hk with
 | 0, _ =>
  show ((a % 18446744073709551616 : Nat) : Int) / 256 ^ i % 256 = _
  rw [h a, Nat.mul_zero, Nat.zero_add]
 | 1, _ =>
  show ((a / 18446744073709551616 % 18446744073709551616 : Nat) : Int) / 256 ^ i % 256 = _
  rw [h, show (18446744073709551616 : Nat) = 256 ^ (8 * 1) by decide, Nat.div_div_eq_div_mul, ← Nat.pow_add]
 | 2, _ =>
  show ((a / 340282366920938463463374607431768211456 % 18446744073709551616 : Nat) : Int) / 256 ^ i % 256 = _
  rw [h, show (340282366920938463463374607431768211456 : Nat) = 256 ^ (8 * 2) by decide, Nat.div_div_eq_div_mul, ← Nat.pow_add]
 | 3, _ =>
  show ((a / 6277101735386680763835789423207666416102355444464034512896 % 18446744073709551616 : Nat) : Int) / 256 ^ i % 256 = _
  rw [h, show (6277101735386680763835789423207666416102355444464034512896 : Nat) = 256 ^ (8 * 3) by decide, Nat.div_div_eq_div_mul, ← Nat.pow_add]
def outAt (a m j : Nat) : Value := if 32 - m ≤ j then .int .u8 (byteN a (31 - j) : Int) else .int .u8 0
theorem outAt_succ (a m : Nat) (hm : m < 32) : (fun j => if j = 31 - m then Value.int .u8 (byteN a m : Int) else outAt a m j) = fun j => if j < 32 then outAt a (m + 1) j else outAt a m j := by
 funext j
 unfold outAt
 by_cases h : j = 31 - m
 ·subst h
  rw [if_pos rfl, if_pos (by omega), if_pos (by omega), show 31 - (31 - m) = m by omega]
 ·rw [if_neg h]
  by_cases h2 : j < 32
  ·rw [if_pos h2]
   by_cases h3 : 32 - m ≤ j
   ·rw [if_pos h3, if_pos (by omega)]
   ·rw [if_neg h3, if_neg (by omega)]
  ·rw [if_neg h2]
def bytesOf (a : Nat) : ByteArray := strOfNums ((List.range 32).map fun j => (byteN a (31 - j) : Int))
def BytSt (w : World) (a m : Nat) (W : World) : Prop :=
 (W.rowIs (w.heap.size + 1) 97 32 (outAt a m) ∧ Boxed W (w.heap.size + 1 + 1) 3 (.int .i64 ((32 - m : Nat) : Int)) ∧ Arr4 W w.heap.size 24 (lim a) ∧ Boxed W (w.heap.size + 1 + 1 + 1) 101 (.pointer (some ⟨w.heap.size, 0, none⟩))) ∧ Below w.heap.size w W
theorem rowIs_own {β : Type} (B : Nat) (t : TypeId) (n : Nat) (f : β → Nat → Value) : Own (fun s W => World.rowIs W B t n (f s)) := fun s X Y row hs hg hrow =>
 hs.of_block (hg.block B hs.lt (fun e' => by
  obtain ⟨o, ho, hc⟩ := hrow B e'.symm
  obtain ⟨cs, h1, _⟩ := hs
  rw [h1] at ho
  cases ho
  cases hc))
theorem BytSt.own (w : World) (a B : Nat) (hB : w.heap.size ≤ B) : OwnFrom B (fun m W => BytSt w a m W) :=
 OwnFrom.and (Own.from (fun s X Y row hs hg hr => ⟨rowIs_own _ _ _ (fun m : Nat => outAt a m) s X Y row hs.1 hg hr, boxed_own _ _ (fun m : Nat => Value.int .i64 ((32 - m : Nat) : Int)) s X Y row hs.2.1 hg hr,
  Arr4.own _ _ (fun _ : Nat => _) s X Y row hs.2.2.1 hg hr, boxed_own _ _ (fun _ : Nat => _) s X Y row hs.2.2.2 hg hr⟩) _) (ownFrom_below (Nat.le_refl _) hB)
def partAt (a k : Nat) : Nat → Int
 | 0 => lim a k
 | i + 1 => partAt a k i / 256
theorem partAt_eq (a k : Nat) : ∀ i, partAt a k i = lim a k / 256 ^ i
 | 0 => by simp [partAt]
 | i + 1 => by
  show partAt a k i / 256 = _
  rw [partAt_eq a k i]
  obtain ⟨x, hx⟩ := Int.eq_ofNat_of_zero_le (lim_u64 a k).1
  rw [hx, Int.pow_succ]
  have h : ((x / 256 ^ i / 256 : Nat) : Int) = ((x / (256 ^ i * 256) : Nat) : Int) := by rw [Nat.div_div_eq_div_mul]
  simpa using h
theorem partAt_u64 (a k i : Nat) : U64 (partAt a k i) := by
 rw [partAt_eq]
 have h := lim_u64 a k
 unfold U64 at *
 exact ⟨Int.ediv_nonneg h.1 (Int.pow_nonneg (by decide)), Int.lt_of_le_of_lt (Int.ediv_le_self _ h.1) h.2⟩
theorem partAt_byte (a k i : Nat) (hk : k < 4) (hi : i < 8) : IntKind.u8.wrap (partAt a k i) = (byteN a (8 * k + i) : Int) := by
 have h := byteN_lim a k i hk hi
 rw [← partAt_eq] at h
 rw [← h]
 rfl
theorem bytes_ret (a : Nat) (_ha : W256 a) : Ret Tryd.prog 51 #[wv a] (.string (bytesOf a)) := by
 intro w
 unfold wv
 have h1 : 1 ≤ 4 := by omega
 refine (callsIn_wide (n := 4)).1 ?_
 refine callsIn_of_wp_marks Tryd.func51 rfl trivial ?_ rfl
 simp only [Tryd.ntmps51, List.size_toArray, List.length_cons, List.length_nil, Nat.reduceAdd, Nat.reduceSub, Array.replicate_succ, Array.replicate_zero, List.push_toArray, List.append_toArray, List.nil_append, List.cons_append]
 gi_wp2_with (gi_at_call 74; refine (callsIn_free free_wide (parts_any _ _)).mono ?_; rintro e w' ⟨rfl, rfl⟩)
 obtain ⟨W0, hW0⟩ : ∃ W0, ((((w.alloc (.cells #[.int .u64 (lim a 0), .int .u64 (lim a 1), .int .u64 (lim a 2), .int .u64 (lim a 3)] 24)).alloc (.cells #[.int .u8 0, .int .u8 0, .int .u8 0, .int .u8 0, .int .u8 0, .int .u8 0, .int .u8 0, .int .u8 0, .int .u8 0, .int .u8 0, .int .u8 0, .int .u8 0, .int .u8 0, .int .u8 0, .int .u8 0, .int .u8 0, .int .u8 0, .int .u8 0, .int .u8 0, .int .u8 0, .int .u8 0, .int .u8 0, .int .u8 0, .int .u8 0, .int .u8 0, .int .u8 0, .int .u8 0, .int .u8 0, .int .u8 0, .int .u8 0, .int .u8 0, .int .u8 0] 97)).alloc (.cells #[.int .i64 32] 3)).alloc (.cells #[.pointer (some ⟨w.heap.size, 0, none⟩)] 101)) = W0 := ⟨_, rfl⟩
 have hsz : W0.heap.size = w.heap.size + 4 := by rw [← hW0]; simp
 have hJ0 : BytSt w a 0 W0 := by
  rw [← hW0]
  refine ⟨⟨?_, ?_, ?_, ?_⟩, ((((Below.refl _ w).alloc (Nat.le_refl _) _).alloc (by simp) _).alloc (by simp; omega) _).alloc (by simp; omega) _⟩
  ·have h := World.rowIs_alloc (w.alloc (.cells #[.int .u64 (lim a 0), .int .u64 (lim a 1), .int .u64 (lim a 2), .int .u64 (lim a 3)] 24)) #[.int .u8 0, .int .u8 0, .int .u8 0, .int .u8 0, .int .u8 0, .int .u8 0, .int .u8 0, .int .u8 0, .int .u8 0, .int .u8 0, .int .u8 0, .int .u8 0, .int .u8 0, .int .u8 0, .int .u8 0, .int .u8 0, .int .u8 0, .int .u8 0, .int .u8 0, .int .u8 0, .int .u8 0, .int .u8 0, .int .u8 0, .int .u8 0, .int .u8 0, .int .u8 0, .int .u8 0, .int .u8 0, .int .u8 0, .int .u8 0, .int .u8 0, .int .u8 0] 97 (outAt a 0) (fun i hi => by
    match i, hi with
    | 0, _ => rfl
    | 1, _ => rfl
    | 2, _ => rfl
    | 3, _ => rfl
    | 4, _ => rfl
    | 5, _ => rfl
    | 6, _ => rfl
    | 7, _ => rfl
    | 8, _ => rfl
    | 9, _ => rfl
    | 10, _ => rfl
    | 11, _ => rfl
    | 12, _ => rfl
    | 13, _ => rfl
    | 14, _ => rfl
    | 15, _ => rfl
    | 16, _ => rfl
    | 17, _ => rfl
    | 18, _ => rfl
    | 19, _ => rfl
    | 20, _ => rfl
    | 21, _ => rfl
    | 22, _ => rfl
    | 23, _ => rfl
    | 24, _ => rfl
    | 25, _ => rfl
    | 26, _ => rfl
    | 27, _ => rfl
    | 28, _ => rfl
    | 29, _ => rfl
    | 30, _ => rfl
    | 31, _ => rfl
    | n + 32, h => exact absurd h (by show ¬ (n + 32 < 32); omega))
   rw [World.size_alloc] at h
   exact (h.alloc _).alloc _
  ·have h := Boxed.new ((w.alloc (.cells #[.int .u64 (lim a 0), .int .u64 (lim a 1), .int .u64 (lim a 2), .int .u64 (lim a 3)] 24)).alloc (.cells #[.int .u8 0, .int .u8 0, .int .u8 0, .int .u8 0, .int .u8 0, .int .u8 0, .int .u8 0, .int .u8 0, .int .u8 0, .int .u8 0, .int .u8 0, .int .u8 0, .int .u8 0, .int .u8 0, .int .u8 0, .int .u8 0, .int .u8 0, .int .u8 0, .int .u8 0, .int .u8 0, .int .u8 0, .int .u8 0, .int .u8 0, .int .u8 0, .int .u8 0, .int .u8 0, .int .u8 0, .int .u8 0, .int .u8 0, .int .u8 0, .int .u8 0, .int .u8 0] 97)) 3 (.int .i64 32)
   rw [World.size_alloc, World.size_alloc] at h
   exact h.alloc _
  ·exact (((Arr4.word w _ a).alloc _).alloc _).alloc _
  ·have h := Boxed.new (((w.alloc (.cells #[.int .u64 (lim a 0), .int .u64 (lim a 1), .int .u64 (lim a 2), .int .u64 (lim a 3)] 24)).alloc (.cells #[.int .u8 0, .int .u8 0, .int .u8 0, .int .u8 0, .int .u8 0, .int .u8 0, .int .u8 0, .int .u8 0, .int .u8 0, .int .u8 0, .int .u8 0, .int .u8 0, .int .u8 0, .int .u8 0, .int .u8 0, .int .u8 0, .int .u8 0, .int .u8 0, .int .u8 0, .int .u8 0, .int .u8 0, .int .u8 0, .int .u8 0, .int .u8 0, .int .u8 0, .int .u8 0, .int .u8 0, .int .u8 0, .int .u8 0, .int .u8 0, .int .u8 0, .int .u8 0] 97)).alloc (.cells #[.int .i64 32] 3)) 101 (.pointer (some ⟨w.heap.size, 0, none⟩))
   simpa using h
 rw [hW0]
 clear hW0
 refine wpIn_rangeFunc_N1 rfl h1 (gf := 87) (lb := #[.pointer (some ⟨w.heap.size + 1 + 1 + 1, 0, none⟩)]) rfl trivial (enters_of Tryd.func87 (by kernel_rfl) rfl)
  (parts_seq _ (by omega) _ _ (lim a) W0 (by omega) (by omega) hJ0.1.2.2.2.cell (fun j hj => hJ0.1.2.2.1.cell hj)) KeepsAt.trans (KeepsAt.refl _) (KeepsAt.b (by simp; omega)) (fun _ _ => rfl)
  (fun k W => BytSt w a (8 * k) W)
  (fun _ _ _ => False)
  (fun s => BytSt.own w a _ (by omega) (8 * s))
  (fun _ _ _ _ _ hs _ _ => hs)
  hJ0
  (fun k => { tmps := #[.agg #[.int .u64 (lim a 0), .int .u64 (lim a 1), .int .u64 (lim a 2), .int .u64 (lim a 3)], .pointer (some ⟨w.heap.size, 0, none⟩), .string { data := #[] }, .pointer (some ⟨w.heap.size + 1, 0, none⟩), .pointer (some ⟨w.heap.size + 1 + 1, 0, none⟩), undef, .int .u64 (lim a k), .func (.func 87) #[] #[.pointer (some ⟨w.heap.size + 1 + 1 + 1, 0, none⟩)], .int .i64 (k : Int), .int .u64 (lim a k), undef, undef, undef, undef, undef, undef, undef, undef, undef, undef, undef, undef, undef], defers := [] }) ?assign ?body ?done ?stop
 case assign =>
  intro l k W K _ hK
  gi_wp2
  exact hK
 case body =>
  rintro l k W _ hk4 hst
  gi_wp2
  gi_loopw [6, 10] (fun p i wr => ∃ m : Nat, m ≤ 8 ∧ i = .int .i64 m ∧ p = .int .u64 (partAt a k m) ∧ BytSt w a (8 * k + m) wr ∧ KeepsAt [w.heap.size, w.heap.size + 1 + 1 + 1] W wr ∧ KeepsFrom W0.heap.size W wr) (fun p i _ => 8 - (intOf i).toNat)
  case atStart => exact ⟨0, by omega, rfl, rfl, hst, KeepsAt.refl _ _, KeepsFrom.refl _ _⟩
  case round =>
   obtain ⟨m, hm, rfl, rfl, ⟨⟨b1, b2, b3, b4⟩, hB⟩, hKa, hKf⟩ := hrel
   have hl1 := b1.lt
   have hl4 := b4.lt
   by_cases hlt : m < 8
   ·have hu := partAt_u64 a k m
    obtain ⟨hu0, hu1⟩ := hu
    have hby := Lib.hid (partAt_byte a k m hk4 hlt)
    have hps : Hid (partAt a k (m + 1) = partAt a k m / 256) := rfl
    obtain ⟨q, hq⟩ : ∃ q : Nat, q + (8 * k + m) = 31 := ⟨31 - (8 * k + m), by omega⟩
    have c2 := b2.cell
    have f2 := b2.frozen
    rw [show ((32 - (8 * k + m) : Nat) : Int) = (q : Int) + 1 by omega] at c2
    have c1 : wr.cell? ⟨w.heap.size + 1, q, none⟩ = some (outAt a (8 * k + m) q) := b1.cell (by omega)
    have f1 := b1.frozen q
    have hq0 : (0 : Int) ≤ (q : Int) := by omega
    have hq1 : (q : Int) < 32 := by omega
    have hm8 : (m : Int) < 8 := by omega
    have hst' : BytSt w a (8 * k + (m + 1)) ((wr.setCell ⟨w.heap.size + 1 + 1, 0, none⟩ (.int .i64 (q : Int))).setCell ⟨w.heap.size + 1, q, none⟩ (.int .u8 (IntKind.u8.wrap (partAt a k m)))) := by
     refine ⟨⟨?_, ?_, ?_, ?_⟩, (hB.setCell (p := ⟨w.heap.size + 1 + 1, 0, none⟩) (by simp; omega) _).setCell (p := ⟨w.heap.size + 1, q, none⟩) (by simp) _⟩
     ·have h := (b1.setOther (a := ⟨w.heap.size + 1 + 1, 0, none⟩) (by simp) (.int .i64 (q : Int))).set q (.int .u8 (IntKind.u8.wrap (partAt a k m)))
      rw [hby.out, show q = 31 - (8 * k + m) by omega, outAt_succ a (8 * k + m) (by omega)] at h
      rw [hby.out, show q = 31 - (8 * k + m) by omega]
      exact h.congr (fun i hi => (if_pos hi).trans rfl)
     ·have h := Boxed.away (Boxed.set (.int .i64 (q : Int)) b2) (p := ⟨w.heap.size + 1, q, none⟩) (by simp) (.int .u8 (IntKind.u8.wrap (partAt a k m)))
      rw [show ((32 - (8 * k + (m + 1)) : Nat) : Int) = (q : Int) by omega]
      exact h
     ·exact Arr4.other (Arr4.other b3 (by simp; omega) _) (by simp) _
     ·exact Boxed.away (Boxed.away b4 (by simp) _) (by simp; omega) _
    have HS := Lib.hid hst'
    have HB := Lib.hid hB
    clear hst' b1 b2 b3 b4 hst hB hJ0 hq
    gi_wp2
    go_roundw
    case rel => exact ⟨m + 1, by omega, by simp, by rw [hps.out], HS.out, (hKa.setCell (by first | (simp; done) | (simp; omega)) _).setCell (by first | (simp; done) | (simp; omega)) _, (hKf.trans ((KeepsOthers.setCell _ _ _).from _)).trans ((KeepsOthers.setCell _ _ _).from _)⟩
    case measure => simp [intOf]; omega
   ·obtain rfl : m = 8 := by omega
    gi_wp2
    exact ⟨hKf, hKa, ⟨⟨b1, b2, b3, b4⟩, hB⟩⟩
 case done =>
  rintro D W hD ⟨⟨b1, b2, b3, b4⟩, hB⟩ hK
  have hcv := run_convert_bytes_arg (P := Tryd.prog) W 103 5 Tryd.underlying103 Tryd.underlying5 (w.heap.size + 1) 0 32 32 ((List.range 32).map fun j => (byteN a (31 - j) : Int)) (by simp) (fun i hi => by
   have h := b1.cell hi
   rw [Nat.zero_add, h]
   unfold outAt
   rw [if_pos (by omega)]
   simp [hi]) 9 Tryd.underlying9
  have HK := Lib.hid hK
  have HB := Lib.hid hB
  have e : strOfNums ((List.range 32).map fun j => (byteN a (31 - j) : Int)) = bytesOf a := rfl
  rw [e] at hcv
  clear e b1 b2 b3 b4 hK hB hJ0
  gi_wp2
  refine ⟨by simp, .inl ⟨_, _, rfl, run_takeDeferred HK.out, ?_⟩⟩
  exact ⟨_, results_tmp rfl _ _ _, rfl, HB.out.trans (belowK_b (w := w) (Nat.le_refl _) _ D _ _ (by omega) HK.out rfl rfl)⟩
 case stop =>
  rintro D c k W _ _ h _
  exact h.elim
end
section
open Go Go.RowKit Go.BigFrame
def upd {α : Type} (f : Nat → α) (i : Nat) (u : α) : Nat → α := fun j => if j = i then u else f j
theorem upd_self {α : Type} (f : Nat → α) (i : Nat) (u : α) : upd f i u i = u := by simp [upd]
theorem upd_ne {α : Type} (f : Nat → α) {i j : Nat} (u : α) (h : j ≠ i) : upd f i u j = f j := by simp [upd, h]
def putsG (f : Nat → Bool) (g : Nat → Value) : Nat → List Oper → Act → Act
 | _, [], a => a
 | k, o :: l, a => putsG f g (k + 1) l (if f k = true then a.put o.dst (g k) else a)
theorem putsG_congr : ∀ (l : List Oper) (k : Nat) (a : Act) (f f' : Nat → Bool) (g g' : Nat → Value), (∀ j, k ≤ j → j < k + l.length → f j = f' j ∧ (f j = true → g j = g' j)) → putsG f g k l a = putsG f' g' k l a
 | [], _, _, _, _, _, _, _ => rfl
 | o :: l, k, a, f, f', g, g', h => by
  simp only [putsG]
  obtain ⟨h1, h2⟩ := h k (Nat.le_refl _) (by simp)
  have e : (if f k = true then a.put o.dst (g k) else a) = (if f' k = true then a.put o.dst (g' k) else a) := by
   rw [← h1]
   split
   ·rename_i ht; rw [h2 ht]
   ·rfl
  rw [e]
  exact putsG_congr l (k + 1) _ f f' g g' (fun j h3 h4 => h j (by omega) (by simp only [List.length_cons]; omega))
theorem putsG_put : ∀ (l : List Oper) (k : Nat) (a : Act) (d : Option Tmp) (u : Value) (f : Nat → Bool) (g : Nat → Value), (∀ o ∈ l, ∀ e, d = some e → o.dst ≠ some e) → putsG f g k l (a.put d u) = (putsG f g k l a).put d u
 | [], _, _, _, _, _, _, _ => rfl
 | o :: l, k, a, d, u, f, g, h => by
  simp only [putsG]
  have hr := fun b => putsG_put l (k + 1) b d u f g (fun o ho => h o (by simp [ho]))
  split
  ·rw [Act.put_comm a u (g k) (h o (by simp)), hr]
  ·rw [hr]
theorem putsG_fire : ∀ (l : List Oper) (k : Nat) (a : Act) (i : Nat) (o : Oper) (u : Value) (f : Nat → Bool) (g : Nat → Value), l[i]? = some o → f (k + i) = false →
  (∀ j oj, l[j]? = some oj → j ≠ i → ∀ e, o.dst = some e → oj.dst ≠ some e) → putsG (upd f (k + i) true) (upd g (k + i) u) k l a = (putsG f g k l a).put o.dst u
 | [], _, _, _, _, _, _, _, h, _, _ => by simp at h
 | p :: l, k, a, 0, o, u, f, g, h, hf, hd => by
  have hp : p = o := by simpa using h
  subst hp
  have hf' : f k = false := by simpa using hf
  simp only [putsG, Nat.add_zero, upd_self, if_true, hf', Bool.false_eq_true, if_false]
  rw [putsG_put l (k + 1) a p.dst u _ _ (fun q hq e he => by
   obtain ⟨j, hj⟩ := List.getElem?_of_mem hq
   exact hd (j + 1) q (by simpa using hj) (by omega) e he)]
  rw [putsG_congr l (k + 1) a (upd f k true) f (upd g k u) g (fun j h1 h2 => ⟨upd_ne _ _ (by omega), fun _ => upd_ne _ _ (by omega)⟩)]
 | p :: l, k, a, i + 1, o, u, f, g, h, hf, hd => by
  simp only [putsG]
  rw [upd_ne _ _ (show k ≠ k + (i + 1) by omega), upd_ne _ _ (show k ≠ k + (i + 1) by omega)]
  have e : k + (i + 1) = (k + 1) + i := by omega
  rw [e]
  exact putsG_fire l (k + 1) _ i o u f g (by simpa using h) (by rw [← e]; exact hf) (fun j oj hj hne e he => hd (j + 1) oj (by simpa using hj) (by omega) e he)
theorem putsG_agree : ∀ (l : List Oper) (k : Nat) (a a' : Act) (f f' : Nat → Bool) (g g' : Nat → Value) (t : Tmp), a.tmps.size = a'.tmps.size → a.tmps[t]? = a'.tmps[t]? →
  (∀ j oj, l[j]? = some oj → oj.dst = some t → f (k + j) = f' (k + j) ∧ (f (k + j) = true → g (k + j) = g' (k + j))) → (putsG f g k l a).tmps[t]? = (putsG f' g' k l a').tmps[t]?
 | [], _, _, _, _, _, _, _, _, _, h, _ => h
 | o :: l, k, a, a', f, f', g, g', t, hs, h, hj => by
  simp only [putsG]
  refine putsG_agree l (k + 1) _ _ f f' g g' t ?_ ?_ (fun j oj hl hd => by
   have := hj (j + 1) oj (by simpa using hl) hd
   rwa [show k + (j + 1) = k + 1 + j by omega] at this)
  ·have hz : ∀ (b : Act) (u : Value), (b.put o.dst u).tmps.size = b.tmps.size := fun b u => by
    cases o.dst <;> simp [Act.put]
   split <;> split <;> simp only [hz, hs]
  ·by_cases hd : o.dst = some t
   ·obtain ⟨h1, h2⟩ := hj 0 o rfl hd
    simp only [Nat.add_zero] at h1 h2
    rw [← h1]
    split
    ·rename_i hf
     rw [h2 hf]
     simp only [Act.put, hd]
     simp only [Array.getElem?_setIfInBounds_self, hs]
    ·exact h
   ·have hp : ∀ (b : Act) (v : Value), (b.put o.dst v).tmps[t]? = b.tmps[t]? := fun b v => by
     cases ho : o.dst with
     | none => rfl
     | some d =>
      have hne : d ≠ t := fun e => hd (by rw [ho, e])
      simp [Act.put, Array.getElem?_setIfInBounds_ne hne]
    split <;> split <;> simp only [hp, h]
theorem putsG_defers : ∀ (l : List Oper) (k : Nat) (a : Act) (f : Nat → Bool) (g : Nat → Value), (putsG f g k l a).defers = a.defers
 | [], _, _, _, _ => rfl
 | o :: l, k, a, f, g => by
  simp only [putsG]
  rw [putsG_defers l]
  split
  ·exact put_defers _ _ _
  ·rfl
def got (o : Oper) (a : Act) : Value :=
 match o.dst with
 | some d => a.tmps.getD d undef
 | none => undef
theorem put_got (o : Oper) (a : Act) (u : Value) : a.put o.dst (got o (a.put o.dst u)) = a.put o.dst u := by
 unfold got
 cases hd : o.dst with
 | none => rfl
 | some d =>
  simp only [Act.put]
  rcases Nat.lt_or_ge d a.tmps.size with h | h
  ·simp [h]
  ·simp [Array.setIfInBounds_eq_of_size_le h]
theorem got_put_same (o : Oper) (a b : Act) (u : Value) (h : a.tmps.size = b.tmps.size) : got o (a.put o.dst u) = got o (b.put o.dst u) := by
 unfold got
 cases hd : o.dst with
 | none => rfl
 | some d =>
  simp only [Act.put]
  rcases Nat.lt_or_ge d a.tmps.size with h' | h'
  ·simp [h', h ▸ h']
  ·rw [Array.setIfInBounds_eq_of_size_le h', Array.setIfInBounds_eq_of_size_le (h ▸ h')]
   have h1 : ¬ d < a.tmps.size := Nat.not_lt.2 h'
   have h2 : ¬ d < b.tmps.size := by rw [← h]; exact h1
   simp only [Array.getD, dif_neg h1, dif_neg h2]
theorem putsG_size : ∀ (l : List Oper) (k : Nat) (a : Act) (f : Nat → Bool) (g : Nat → Value), (putsG f g k l a).tmps.size = a.tmps.size
 | [], _, _, _, _ => rfl
 | o :: l, k, a, f, g => by
  simp only [putsG]
  rw [putsG_size l]
  split
  ·simp only [Act.put]; cases o.dst <;> simp
  ·rfl
section
variable {P : Program} {md : Region.Mode}
structure GhostOk (md : Region.Mode) (l : List Oper) (deps : List (List Nat)) : Prop where
 sel : ∀ (j : Nat) (o : Oper) cs b, l[j]? = some o → o.op ≠ .select cs b
 edges : ∀ (j : Nat) (oj : Oper), l[j]? = some oj → ∀ e ∈ oj.after, Region.binds md e = true → e.on < j
 told : ∀ i, i < l.length → ∀ j ∈ deps.getD i [], j < i ∧ ∃ k, Region.waitsFor md l.toArray i k = true ∧ (j = k ∨ j ∈ deps.getD k [])
 looks : ∀ (i j : Nat) (oi oj : Oper), l[i]? = some oi → l[j]? = some oj → ∀ d, oj.dst = some d → d ∈ oi.looksAt l.toArray → j ∈ deps.getD i []
 dsts : ∀ (i j : Nat) (oi oj : Oper), l[i]? = some oi → l[j]? = some oj → j ≠ i → ∀ d, oi.dst = some d → oj.dst ≠ some d
def ghostOne (md : Region.Mode) (l : List Oper) (deps : List (List Nat)) (i : Nat) (oi : Oper) : Bool :=
 (oi.after.all fun e => !Region.binds md e || decide (e.on < i)) &&
 ((deps.getD i []).all fun j => decide (j < i) && ((List.range l.length).any fun k => Region.waitsFor md l.toArray i k && (j == k || (deps.getD k []).contains j))) &&
 ((List.range l.length).all fun j => match l[j]? with
  | none => true
  | some oj => match oj.dst with
   | none => true
   | some d => (!(oi.looksAt l.toArray).contains d || (deps.getD i []).contains j) && (j == i || oi.dst != some d))
def ghostB (md : Region.Mode) (l : List Oper) (deps : List (List Nat)) : Bool :=
 Region.noSelect l.toArray &&
 ((List.range l.length).all fun i => match l[i]? with
  | none => true
  | some oi => ghostOne md l deps i oi)
theorem ghostOk {md : Region.Mode} {l : List Oper} {deps : List (List Nat)} (h : ghostB md l deps = true) : GhostOk md l deps := by
 unfold ghostB at h
 rw [Bool.and_eq_true] at h
 obtain ⟨h1, h2⟩ := h
 have key : ∀ i oi, l[i]? = some oi → ghostOne md l deps i oi = true := fun i oi hi => by
  have := List.all_eq_true.1 h2 i (List.mem_range.2 (List.getElem?_eq_some_iff.1 hi).1)
  simpa only [hi] using this
 have key1 : ∀ (i : Nat) (oi : Oper), l[i]? = some oi → (oi.after.all fun e => !Region.binds md e || decide (e.on < i)) = true := fun i oi hi => by
  have := key i oi hi
  unfold ghostOne at this
  rw [Bool.and_eq_true, Bool.and_eq_true] at this
  exact this.1.1
 have key2 : ∀ (i : Nat) (oi : Oper), l[i]? = some oi → ((deps.getD i []).all fun j => decide (j < i) && ((List.range l.length).any fun k => Region.waitsFor md l.toArray i k && (j == k || (deps.getD k []).contains j))) = true := fun i oi hi => by
  have := key i oi hi
  unfold ghostOne at this
  rw [Bool.and_eq_true, Bool.and_eq_true] at this
  exact this.1.2
 have key3 : ∀ (i : Nat) (oi : Oper) (j : Nat) (oj : Oper) (d : Tmp), l[i]? = some oi → l[j]? = some oj → oj.dst = some d → ((oi.looksAt l.toArray).contains d = true → (deps.getD i []).contains j = true) ∧ (j ≠ i → oi.dst ≠ some d) := fun i oi j oj d hi hj hd => by
  have := key i oi hi
  unfold ghostOne at this
  rw [Bool.and_eq_true] at this
  have := List.all_eq_true.1 this.2 j (List.mem_range.2 (List.getElem?_eq_some_iff.1 hj).1)
  simp only [hj, hd] at this
  rw [Bool.and_eq_true, Bool.or_eq_true, Bool.or_eq_true, Bool.not_eq_true', beq_iff_eq, bne_iff_ne] at this
  refine ⟨fun h => ?_, fun hne => ?_⟩
  ·rcases this.1 with h' | h'
   ·rw [h] at h'; cases h'
   ·exact h'
  ·rcases this.2 with h' | h'
   ·exact absurd h' hne
   ·exact h'
 refine ⟨fun j o cs b hj => Region.noSelect_spec h1 j o cs b (by simpa using hj), fun j oj hj e he hb => ?_, fun i hi j hj => ?_, fun i j oi oj hi hj d hd hin => ?_, fun i j oi oj hi hj hne d hd hd' => (key3 i oi j oj d hi hj hd').2 hne hd⟩
 ·have := Array.all_eq_true_iff_forall_mem.1 (key1 j oj hj) e he
  rw [hb] at this
  simpa using this
 ·have := List.all_eq_true.1 (key2 i l[i] (by simp [hi])) j hj
  rw [Bool.and_eq_true, decide_eq_true_eq] at this
  obtain ⟨k, _, hk⟩ := List.any_eq_true.1 this.2
  rw [Bool.and_eq_true, Bool.or_eq_true, beq_iff_eq, List.contains_iff_mem] at hk
  exact ⟨this.1, k, hk.1, hk.2⟩
 ·exact List.contains_iff_mem.1 ((key3 i oi j oj d hi hj hd).1 (List.contains_iff_mem.2 hin))
def onceC (A : Act) (o : Oper) (R : Value → World → Prop) : Exit → Act → World → Prop := calmPost fun _ a' w' => a'.defers = A.defers ∧ R (got o a') w'
def GW (P : Program) (ops : Array Oper) (c : List (Option Value)) (deps : List (List Nat)) (U : (Nat → Bool) → (Nat → Value) → World → Prop) (Q : Exit → Act → World → Prop) (f : Nat → Bool) (g : Nat → Value) (w : World) : Nat → List Oper → Act → Prop
 | i, [], A => (∀ j, j < i → f j = true) → Q .normal A w
 | i, o :: l, A => match c.getD i none with
  | some v => ((∀ j ∈ deps.getD i [], f j = true) → f i = false → wpList P ops (onceC A o fun u w' => u = v ∧ Below w.heap.size w w') [o] A w) ∧ GW P ops c deps U Q f g w (i + 1) l (A.put o.dst v)
  | none => ((∀ j ∈ deps.getD i [], f j = true) → f i = false → wpList P ops (onceC A o fun u w' => U (upd f i true) (upd g i u) w') [o] A w) ∧ GW P ops c deps U Q f g w (i + 1) l (A.put o.dst (g i))
variable {ops : Array Oper} {c : List (Option Value)} {deps : List (List Nat)} {U : (Nat → Bool) → (Nat → Value) → World → Prop} {Q : Exit → Act → World → Prop} {f : Nat → Bool} {g : Nat → Value} {w : World}
theorem GW.nil {i : Nat} {A : Act} (h : (∀ j, j < i → f j = true) → Q .normal A w) : GW P ops c deps U Q f g w i [] A := h
theorem GW.known {i : Nat} {o : Oper} {l : List Oper} {A : Act} (v : Value) (hc : c.getD i none = some v) (h1 : (∀ j ∈ deps.getD i [], f j = true) → f i = false → wpList P ops (onceC A o fun u w' => u = v ∧ Below w.heap.size w w') [o] A w)
  (h2 : GW P ops c deps U Q f g w (i + 1) l (A.put o.dst v)) : GW P ops c deps U Q f g w i (o :: l) A := by
 unfold GW; rw [hc]; exact ⟨h1, h2⟩
theorem GW.open {i : Nat} {o : Oper} {l : List Oper} {A : Act} (hc : c.getD i none = none) (h1 : (∀ j ∈ deps.getD i [], f j = true) → f i = false → wpList P ops (onceC A o fun u w' => U (upd f i true) (upd g i u) w') [o] A w)
  (h2 : GW P ops c deps U Q f g w (i + 1) l (A.put o.dst (g i))) : GW P ops c deps U Q f g w i (o :: l) A := by
 unfold GW; rw [hc]; exact ⟨h1, h2⟩
def knownG (c : List (Option Value)) (g : Nat → Value) (j : Nat) : Value := (c.getD j none).getD (g j)
theorem GW.at {a0 : Act} {l : List Oper} (hd : ∀ (i j : Nat) (oi oj : Oper), l[i]? = some oi → l[j]? = some oj → j ≠ i → ∀ d, oi.dst = some d → oj.dst ≠ some d) :
  ∀ (t : List Oper) (k : Nat), (∀ j, t[j]? = l[k + j]?) → k + t.length = l.length → GW P ops c deps U Q f g w k t (putsG (fun j => decide (j < k)) (knownG c g) 0 l a0) →
  (∀ i o, k ≤ i → l[i]? = some o → (∀ j ∈ deps.getD i [], f j = true) → f i = false →
   wpList P ops (onceC (putsG (fun j => decide (j < i)) (knownG c g) 0 l a0) o fun u w' => match c.getD i none with | some v => u = v ∧ Below w.heap.size w w' | none => U (upd f i true) (upd g i u) w') [o] (putsG (fun j => decide (j < i)) (knownG c g) 0 l a0) w) ∧
  ((∀ j, j < l.length → f j = true) → Q .normal (putsG (fun j => decide (j < l.length)) (knownG c g) 0 l a0) w)
 | [], k, hl, hk, h => by
  simp only [List.length_nil, Nat.add_zero] at hk
  subst hk
  refine ⟨fun i o hi ho => ?_, h⟩
  rw [List.getElem?_eq_none hi] at ho
  cases ho
 | o :: t, k, hl, hk, h => by
  have h0 : l[k]? = some o := by simpa using (hl 0).symm
  have step : ∀ u, knownG c g k = u → (putsG (fun j => decide (j < k)) (knownG c g) 0 l a0).put o.dst u = putsG (fun j => decide (j < k + 1)) (knownG c g) 0 l a0 := fun u hu => by
   have := putsG_fire l 0 a0 k o u (fun j => decide (j < k)) (knownG c g) h0 (by simp) (fun j oj hj hne => hd k j o oj h0 hj hne)
   rw [Nat.zero_add] at this
   rw [← this]
   refine putsG_congr l 0 a0 _ _ _ _ (fun j _ _ => ⟨?_, fun _ => ?_⟩)
   ·by_cases hj : j = k
    ·subst hj; rw [upd_self]; simp
    ·rw [upd_ne _ _ hj]; exact decide_eq_decide.2 (by omega)
   ·by_cases hj : j = k
    ·subst hj; rw [upd_self, hu]
    ·rw [upd_ne _ _ hj]
  unfold GW at h
  have hl' : ∀ j, t[j]? = l[k + 1 + j]? := fun j => by
   have := hl (j + 1)
   simpa [Nat.add_assoc, Nat.add_comm 1 j] using this
  have hk' : k + 1 + t.length = l.length := by simp only [List.length_cons] at hk; omega
  cases hc : c.getD k none with
  | some v =>
   rw [hc] at h
   simp only [] at h
   rw [step v (by unfold knownG; rw [hc]; rfl)] at h
   obtain ⟨h1, h2⟩ := h
   obtain ⟨r1, r2⟩ := GW.at hd t (k + 1) hl' hk' h2
   refine ⟨fun i oi hi ho => ?_, r2⟩
   rcases Nat.eq_or_lt_of_le hi with rfl | hlt
   ·have : oi = o := Option.some.inj (ho.symm.trans h0)
    subst this
    rw [hc]
    exact h1
   ·exact r1 i oi hlt ho
  | none =>
   rw [hc] at h
   simp only [] at h
   rw [step (g k) (by unfold knownG; rw [hc]; rfl)] at h
   obtain ⟨h1, h2⟩ := h
   obtain ⟨r1, r2⟩ := GW.at hd t (k + 1) hl' hk' h2
   refine ⟨fun i oi hi ho => ?_, r2⟩
   rcases Nat.eq_or_lt_of_le hi with rfl | hlt
   ·have : oi = o := Option.some.inj (ho.symm.trans h0)
    subst this
    rw [hc]
    exact h1
   ·exact r1 i oi hlt ho
theorem wanted_same (o : Oper) (a a' : Act) (h : ∀ t ∈ o.looksAt ops, a.tmps[t]? = a'.tmps[t]?) : Region.wanted o (yielded ops a.tmps) = Region.wanted o (yielded ops a'.tmps) := by
 unfold Region.wanted
 cases hg : o.guard with
 | none => rfl
 | some gw =>
  obtain ⟨q, want⟩ := gw
  have hy : yielded ops a.tmps q = yielded ops a'.tmps q := by
   unfold yielded
   cases ht : (ops[q]?).bind (·.dst) with
   | none => rfl
   | some t =>
    simp only [Option.bind_some]
    rw [h t (by simp [Oper.looksAt, hg, ht])]
  simp only [hy]
theorem exec_same (o : Oper) (hs : ∀ cs b, o.op ≠ .select cs b) (a a' : Act) (h : ∀ t ∈ o.looksAt ops, a.tmps[t]? = a'.tmps[t]?) : execOp a.eval o = execOp a'.eval o :=
 execOp_congr o hs fun x hx => by
  cases x with
  | tmp t =>
   have := h t (List.mem_append_left _ (List.mem_filterMap.2 ⟨.tmp t, by simpa using hx, rfl⟩))
   simp only [Act.eval, Array.getD_eq_getD_getElem?, this]
  | _ => rfl
variable {F : Fence} {m : Nat}
structure Held (md : Region.Mode) (l : List Oper) (c : List (Option Value)) (deps : List (List Nat)) (U : (Nat → Bool) → (Nat → Value) → World → Prop) (a0 : Act) (listed : Array Bool) (g : Nat → Value) (a : Act) (w : World) : Prop where
 closed : Closed md l.toArray listed
 act : a = putsG (fun j => listed.getD j false) g 0 l a0
 vals : ∀ j v, listed.getD j false = true → c.getD j none = some v → g j = v
 down : ∀ k, listed.getD k false = true → ∀ j ∈ deps.getD k [], listed.getD j false = true
 world : U (fun j => listed.getD j false) g w
theorem exists_ready' {l : List Oper} (hedges : ∀ (j : Nat) (oj : Oper), l[j]? = some oj → ∀ e ∈ oj.after, Region.binds md e = true → e.on < j) {listed : Array Bool} (hc : Closed md l.toArray listed) : ∀ i, listed.getD i true = false → ∃ j, j ∈ Region.ready md l.toArray listed := by
 intro i
 induction i using Nat.strongRecOn with
 | _ i ih =>
  intro hi
  by_cases h : ∃ oi, l.toArray[i]? = some oi ∧ ∃ e ∈ oi.after, Region.binds md e = true ∧ listed.getD e.on false = false
  ·obtain ⟨oi, hoi, e, he, hb, hf⟩ := h
   have hlt := hedges i oi (by simpa using hoi) e he hb
   have hil : i < listed.size := by
    rw [hc.1]; exact (Array.getElem?_eq_some_iff.1 hoi).1
   exact ih e.on hlt (getD_in (by omega) hf)
  ·refine ⟨i, mem_ready.2 ⟨hi, ?_⟩⟩
   have hil : i < l.toArray.size := by
    rw [← hc.1]
    rcases Nat.lt_or_ge i listed.size with h' | h'
    ·exact h'
    ·simp [Array.getElem?_eq_none h'] at hi
   refine ⟨l.toArray[i], by simp [], fun e he hb => ?_⟩
   cases hl : listed.getD e.on false with
   | true => rfl
   | false => exact absurd ⟨l.toArray[i], by simp [], e, he, hb, hl⟩ h
theorem ghost_main (hF : Free F) {l : List Oper} {a0 : Act} (ok : GhostOk md l deps) (hnd : ∀ o ∈ l, ∀ q, o.op ≠ .defer q)
  (hg : ∀ f g w w', U f g w → Below w.heap.size w w' → U f g w')
  (hi : ∀ f f' g g' w, (∀ j, c.getD j none = none → f j = f' j ∧ g j = g' j) → U f g w → U f' g' w)
  (hw : ∀ f g w, U f g w → (∀ k, f k = true → ∀ j ∈ deps.getD k [], f j = true) → GW P l.toArray c deps U Q f g w 0 l a0) :
  ∀ (fuel : Nat) (V : List Nat) (listed : Array Bool) (g : Nat → Value) (a : Act) (w : World), V.Nodup → (∀ i, i ∈ V ↔ listed.getD i true = false) → V.length = fuel → Held md l c deps U a0 listed g a w →
   wpAnyIn F m P md l.toArray Q fuel listed a w := by
 intro fuel
 induction fuel with
 | zero =>
  intro V listed g a w hV hVm hVl H
  have hnil : V = [] := List.eq_nil_of_length_eq_zero hVl
  subst hnil
  have hall : ∀ i, listed.getD i true = true := fun i => by
   cases hi : listed.getD i true with
   | true => rfl
   | false => have := (hVm i).2 hi; cases this
  have hallf : ∀ i, i < l.length → listed.getD i false = true := fun i hil => by
   cases hi : listed.getD i false with
   | true => rfl
   | false => have := getD_in (by rw [H.closed.1]; simpa using hil) hi; rw [hall] at this; cases this
  refine ⟨?_, ?_⟩
  ·apply List.eq_nil_iff_forall_not_mem.2
   intro j hj
   have := (mem_ready.1 hj).1
   rw [hall] at this; cases this
  ·have h0 : putsG (fun j => decide (j < 0)) (knownG c g) 0 l a0 = a0 := by
    rw [putsG_congr l 0 a0 (fun j => decide (j < 0)) (fun _ => false) (knownG c g) g (fun j _ _ => ⟨by simp, fun h => by simp at h⟩)]
    have : ∀ (t : List Oper) k, putsG (fun _ => false) g k t a0 = a0 := by
     intro t
     induction t with
     | nil => intro k; rfl
     | cons o t ih => intro k; simp only [putsG, Bool.false_eq_true, if_false]; exact ih _
    exact this l 0
   have hGW := hw _ _ _ H.world H.down
   rw [← h0] at hGW
   have := (GW.at ok.dsts l 0 (fun j => by simp) (by simp) (by rw [h0] at hGW ⊢; exact hGW)).2 hallf
   rw [H.act]
   rw [putsG_congr l 0 a0 (fun j => listed.getD j false) (fun j => decide (j < l.length)) g (knownG c g) (fun j _ hj => ⟨by rw [hallf j (by omega)]; simp; omega, fun hf => by
    unfold knownG
    cases hc : c.getD j none with
    | none => rfl
    | some v => rw [H.vals j v hf hc]; rfl⟩)]
   exact this
 | succ fuel ih =>
  intro V listed g a w hV hVm hVl H
  refine ⟨fun h0 => ?_, fun i hir => ?_⟩
  ·obtain ⟨j, hj⟩ : ∃ j, j ∈ V := by
    cases V with
    | nil => cases hVl
    | cons x r => exact ⟨x, by simp⟩
   obtain ⟨k, hk⟩ := exists_ready' ok.edges H.closed j ((hVm j).1 hj)
   rw [h0] at hk; cases hk
  ·obtain ⟨hun, oi, hoi, hall⟩ := mem_ready.1 hir
   have hoi' : l[i]? = some oi := by simpa using hoi
   have hilt : i < l.length := (List.getElem?_eq_some_iff.1 hoi').1
   have hiV : i ∈ V := (hVm i).2 hun
   have hV' : (V.erase i).Nodup := hV.erase i
   have hVm' : ∀ j, j ∈ V.erase i ↔ (listed.setIfInBounds i true).getD j true = false := fun j => by
    by_cases hji : j = i
    ·subst hji
     rw [getD_set_true']
     simp [hV.not_mem_erase]
    ·rw [List.mem_erase_of_ne hji, hVm j, getD_set_ne true (Ne.symm hji)]
   have hVl' : (V.erase i).length = fuel := by rw [List.length_erase_of_mem hiV, hVl]; rfl
   have hc' := H.closed.set hir
   have hom : oi ∈ l := List.mem_of_getElem? hoi'
   have hfi : listed.getD i false = false := getD_both hun
   have hdown : ∀ j ∈ deps.getD i [], listed.getD j false = true := fun j hj => by
    obtain ⟨_, k, hk, hjk⟩ := ok.told i hilt j hj
    have hlk := ready_waits hir hk
    rcases hjk with rfl | hjk
    ·exact hlk
    ·exact H.down k hlk j hjk
   have hflag : (fun j => (listed.setIfInBounds i true).getD j false) = upd (fun j => listed.getD j false) i true := by
    funext j
    by_cases hji : j = i
    ·subst hji
     rw [upd_self]
     have : j < listed.size := by rw [H.closed.1]; simpa using hilt
     simp [this]
    ·rw [upd_ne _ _ hji, getD_set_ne false (Ne.symm hji)]
   -- the frame as the walk has it
   let A := putsG (fun j => decide (j < i)) (knownG c g) 0 l a0
   have hA : A = putsG (fun j => decide (j < i)) (knownG c g) 0 l a0 := rfl
   have h0 : putsG (fun j => decide (j < 0)) (knownG c g) 0 l a0 = a0 := by
    rw [putsG_congr l 0 a0 (fun j => decide (j < 0)) (fun _ => false) (knownG c g) g (fun j _ _ => ⟨by simp, fun h => by simp at h⟩)]
    have : ∀ (t : List Oper) k, putsG (fun _ => false) g k t a0 = a0 := by
     intro t
     induction t with
     | nil => intro k; rfl
     | cons o t ih => intro k; simp only [putsG, Bool.false_eq_true, if_false]; exact ih _
    exact this l 0
   have hGW := hw _ _ _ H.world H.down
   have hW := (GW.at (a0 := a0) ok.dsts l 0 (fun j => by simp) (by simp) (by rw [h0]; exact hGW)).1 i oi (Nat.zero_le _) hoi' hdown hfi
   rw [← hA] at hW
   have hsz : A.tmps.size = a.tmps.size := by rw [hA, H.act, putsG_size, putsG_size]
   have htm : ∀ t ∈ oi.looksAt l.toArray, a.tmps[t]? = A.tmps[t]? := fun t ht => by
    rw [hA, H.act]
    refine putsG_agree l 0 a0 a0 _ _ _ _ t rfl rfl (fun j oj hj hd => ?_)
    have hjd := ok.looks i j oi oj hoi' hj t hd ht
    have hlj := hdown j hjd
    have hji := (ok.told i hilt j hjd).1
    rw [Nat.zero_add]
    refine ⟨by show listed.getD j false = decide (j < i); rw [hlj, decide_eq_true hji], fun _ => ?_⟩
    unfold knownG
    cases hc : c.getD j none with
    | none => rfl
    | some v => rw [H.vals j v hlj hc]; rfl
   have hex : execOp a.eval oi = execOp A.eval oi := exec_same oi (fun cs b => ok.sel i oi cs b hoi') a A htm
   have hwn : Region.wanted oi (yielded l.toArray a.tmps) = Region.wanted oi (yielded l.toArray A.tmps) := wanted_same oi a A htm
   have hadA : A.defers = a.defers := by rw [hA, H.act, putsG_defers, putsG_defers]
   -- what comes behind
   have next : ∀ (ds : List Deferred) (v : Value) (w' : World), onceC A oi (fun u w' => match c.getD i none with | some v => u = v ∧ Below w.heap.size w w' | none => U (upd (fun j => listed.getD j false) i true) (upd g i u) w') .normal ((Act.deferring A ds).put oi.dst v) w' →
     wpAnyIn F m P md l.toArray Q fuel (listed.setIfInBounds i true) ((Act.deferring a ds).put oi.dst v) w' := fun ds v w' hnx => by
    obtain ⟨hds, hR⟩ := hnx
    rw [put_defers] at hds
    have hds' : ds = a.defers := by rw [← hadA]; exact hds
    subst hds'
    have hg' : got oi ((Act.deferring A a.defers).put oi.dst v) = got oi (a.put oi.dst v) := got_put_same oi _ _ v hsz
    rw [hg'] at hR
    rw [deferring_self, ← put_got]
    refine ih (V.erase i) _ (upd g i (got oi (a.put oi.dst v))) _ w' hV' hVm' hVl' ⟨hc', ?_, ?_, ?_, ?_⟩
    ·rw [hflag, H.act]
     have := putsG_fire l 0 a0 i oi (got oi (a.put oi.dst v)) (fun j => listed.getD j false) g hoi' (by rw [Nat.zero_add]; exact hfi) (fun j oj hj hne => ok.dsts i j oi oj hoi' hj hne)
     rw [Nat.zero_add] at this
     rw [← H.act]
     rw [this, ← H.act]
    ·intro j v' hj hcj
     by_cases hji : j = i
     ·subst hji
      rw [upd_self]
      rw [hcj] at hR
      exact hR.1
     ·rw [getD_set_ne false (Ne.symm hji)] at hj
      rw [upd_ne _ _ hji]
      exact H.vals j v' hj hcj
    ·intro k hk j hj
     by_cases hki : k = i
     ·subst hki; exact getD_set_true (hdown j hj)
     ·rw [getD_set_ne false (Ne.symm hki)] at hk
      exact getD_set_true (H.down k hk j hj)
    ·rw [hflag]
     cases hc : c.getD i none with
     | none => rw [hc] at hR; exact hR
     | some v' =>
      rw [hc] at hR
      refine hi _ _ _ _ _ (fun j hj => ?_) (hg _ _ _ _ H.world hR.2)
      have hji : j ≠ i := fun e => by rw [e, hc] at hj; cases hj
      exact ⟨(upd_ne (fun j => listed.getD j false) true hji).symm, (upd_ne g _ hji).symm⟩
   unfold wpOpIn
   simp only [hoi]
   simp only [wpList] at hW
   rw [← hwn] at hW
   by_cases hwt : Region.wanted oi (yielded l.toArray a.tmps) = true
   ·rw [if_pos hwt] at hW
    rw [if_pos hwt]
    refine ⟨fun f _ => hF.fn f, ?_⟩
    rw [Oper.semAt_eq _ _ _ (hnd oi hom)]
    rcases hW with hW | ⟨_, hl⟩
    ·unfold Oper.wp at hW
     rw [← hex] at hW
     exact uponIn_frame hF hadA (fun ds v w' h => next ds v w' h) hW
    ·exact absurd hl (not_letsOut _)
   ·rw [if_neg hwt] at hW
    rw [if_neg hwt]
    refine ⟨fun f _ => hF.fn f, ?_⟩
    have := next A.defers undef w (by rw [deferring_self]; exact hW)
    rw [hadA, deferring_self] at this
    exact this
theorem wpIn_region_ghost (hF : Free F) (c : List (Option Value)) (deps : List (List Nat)) (U : (Nat → Bool) → (Nat → Value) → World → Prop) {id : Nat} {a : Act} {w : World} {l : List Oper} (hm : P.follows .mixedOrders = true) (hnd : noDefer l = true) (hB : ghostB .any l deps = true)
  (hg : ∀ f g w w', U f g w → Below w.heap.size w w' → U f g w')
  (hi : ∀ f f' g g' w, (∀ j, c.getD j none = none → f j = f' j ∧ g j = g' j) → U f g w → U f' g' w)
  (h0 : U (fun _ => false) (fun _ => undef) { w with drawn := w.drawn + 1 })
  (hw : ∀ f g w, U f g w → (∀ k, f k = true → ∀ j ∈ deps.getD k [], f j = true) → GW P l.toArray c deps U Q f g w 0 l a) : (Code.region id l.toArray true).wpIn F m P Q a w := by
 have ok := ghostOk hB
 refine wpIn_region_any hm ?_
 have hf0 : (fun j => (Array.replicate l.toArray.size false).getD j false) = fun _ => false := by funext j; exact getD_replicate_false _ _
 refine ghost_main hF ok (noDefer_spec hnd) hg hi hw l.toArray.size (List.range l.toArray.size) _ (fun _ => undef) a _ List.nodup_range (fun i => ?_) (by simp) ⟨⟨by simp, fun j oj _ hl => ?_⟩, ?_, fun j v hj => ?_, fun k hk => ?_, ?_⟩
 ·rw [List.mem_range]
  rcases Nat.lt_or_ge i l.toArray.size with h | h
  ·exact ⟨fun _ => getD_in (by simpa using h) (getD_replicate_false _ _), fun _ => h⟩
  ·refine ⟨fun h' => absurd h' (by omega), fun h' => ?_⟩
   simp only [List.size_toArray] at h
   simp [Array.getD, show ¬ i < l.length by omega] at h'
 ·rw [getD_replicate_false] at hl; cases hl
 ·rw [hf0]
  have : ∀ (t : List Oper) k, putsG (fun _ => false) (fun _ => undef) k t a = a := by
   intro t
   induction t with
   | nil => intro k; rfl
   | cons o t ih => intro k; simp only [putsG, Bool.false_eq_true, if_false]; exact ih _
  exact (this l 0).symm
 ·rw [getD_replicate_false] at hj; cases hj
 ·rw [getD_replicate_false] at hk; cases hk
 ·rw [hf0]; exact h0
theorem wp_region_ghost (c : List (Option Value)) (deps : List (List Nat)) (U : (Nat → Bool) → (Nat → Value) → World → Prop) {id : Nat} {a : Act} {w : World} {l : List Oper} (hm : P.follows .mixedOrders = true) (hnd : noDefer l = true) (hB : ghostB .any l deps = true)
  (hg : ∀ f g w w', U f g w → Below w.heap.size w w' → U f g w')
  (hi : ∀ f f' g g' w, (∀ j, c.getD j none = none → f j = f' j ∧ g j = g' j) → U f g w → U f' g' w)
  (h0 : U (fun _ => false) (fun _ => undef) { w with drawn := w.drawn + 1 })
  (hw : ∀ f g w, U f g w → (∀ k, f k = true → ∀ j ∈ deps.getD k [], f j = true) → GW P l.toArray c deps U Q f g w 0 l a) : (Code.region id l.toArray true).wp P Q a w :=
 wpIn_wide.1 (wpIn_region_ghost (m := 0) free_wide c deps U hm hnd hB hg hi h0 hw)
end
end
end Go.Proofs.YtlihnlkcgiopoaaDoor
