import Derived.Test.YtbbpmcebakckaaaGreatDoorU03
import Derived.Deep.OwnRows
import Derived.Laws.BytesArg
import Derived.Lib.Mul64
import Derived.Shelf.Bits.Mul64
/- Bytes. For every word. -/
namespace Go.Proofs.YtbbpmcebakckaaaGreatDoor
open Go Go.RowKit Go.Shelf
attribute [local go_sem] Oper.semAt_some Grows wide_fn

/-- Digit t of a number to the base 256, the lowest one being digit 0. -/
def byteN (a t : Nat) : Nat := a / 256 ^ t % 256
theorem byteN_lt (a t : Nat) : byteN a t < 256 := Nat.mod_lt _ (by decide)
theorem byteN_lim (a k i : Nat) (hk : k < 4) (hi : i < 8) : (lim a k / 256 ^ i) % 256 = (byteN a (8 * k + i) : Int) := by
  unfold byteN
  have h : ∀ x : Nat, ((x % 18446744073709551616 : Nat) : Int) / 256 ^ i % 256 = ((x / 256 ^ i % 256 : Nat) : Int) := by
    intro x
    have : i = 0 ∨ i = 1 ∨ i = 2 ∨ i = 3 ∨ i = 4 ∨ i = 5 ∨ i = 6 ∨ i = 7 := by omega
    rcases this with rfl | rfl | rfl | rfl | rfl | rfl | rfl | rfl <;> simp only [Nat.reducePow, Int.reducePow] <;> omega
  match k, hk with
  | 0, _ =>
    show ((a % 18446744073709551616 : Nat) : Int) / 256 ^ i % 256 = _
    rw [h a, Nat.mul_zero, Nat.zero_add]
  | 1, _ =>
    show ((a / 18446744073709551616 % 18446744073709551616 : Nat) : Int) / 256 ^ i % 256 = _
    rw [h, show (18446744073709551616 : Nat) = 256 ^ (8 * 1) by decide, Nat.div_div_eq_div_mul, ← Nat.pow_add]
  | 2, _ =>
    show ((a / 340282366920938463463374607431768211456 % 18446744073709551616 : Nat) : Int) / 256 ^ i % 256 = _
    rw [h, show (340282366920938463463374607431768211456 : Nat) = 256 ^ (8 * 2) by decide, Nat.div_div_eq_div_mul, ← Nat.pow_add]
  | 3, _ =>
    show ((a / 6277101735386680763835789423207666416102355444464034512896 % 18446744073709551616 : Nat) : Int) / 256 ^ i % 256 = _
    rw [h, show (6277101735386680763835789423207666416102355444464034512896 : Nat) = 256 ^ (8 * 3) by decide, Nat.div_div_eq_div_mul, ← Nat.pow_add]

/-- What place j of the bytes holds when m of them have been told. -/
def outAt (a m j : Nat) : Value := if 32 - m ≤ j then .int .u8 (byteN a (31 - j) : Int) else .int .u8 0
theorem outAt_succ (a m : Nat) (hm : m < 32) : (fun j => if j = 31 - m then Value.int .u8 (byteN a m : Int) else outAt a m j) = fun j => if j < 32 then outAt a (m + 1) j else outAt a m j := by
  funext j
  unfold outAt
  by_cases h : j = 31 - m
  · subst h
    rw [if_pos rfl, if_pos (by omega), if_pos (by omega), show 31 - (31 - m) = m by omega]
  · rw [if_neg h]
    by_cases h2 : j < 32
    · rw [if_pos h2]
      by_cases h3 : 32 - m ≤ j
      · rw [if_pos h3, if_pos (by omega)]
      · rw [if_neg h3, if_neg (by omega)]
    · rw [if_neg h2]
/-- The bytes of a number, the highest one first. -/
def bytesOf (a : Nat) : ByteArray := strOfNums ((List.range 32).map fun j => (byteN a (31 - j) : Int))

def BytSt (w : World) (a m : Nat) (W : World) : Prop :=
  (W.rowIs (w.heap.size + 1) 84 32 (outAt a m) ∧ Boxed W (w.heap.size + 1 + 1) 3 (.int .i64 ((32 - m : Nat) : Int)) ∧ Arr4 W w.heap.size 25 (lim a) ∧ Boxed W (w.heap.size + 1 + 1 + 1) 88 (.pointer (some ⟨w.heap.size, 0, none⟩))) ∧ Below w.heap.size w W
theorem rowIs_own {β : Type} (B : Nat) (t : TypeId) (n : Nat) (f : β → Nat → Value) : Own (fun s W => World.rowIs W B t n (f s)) := fun s X Y row hs hg hrow =>
  hs.of_block (hg.block B hs.lt (fun e' => by
    obtain ⟨o, ho, hc⟩ := hrow B e'.symm
    obtain ⟨cs, h1, _⟩ := hs
    rw [h1] at ho
    cases ho
    cases hc))
theorem BytSt.own (w : World) (a B : Nat) (hB : w.heap.size ≤ B) : OwnFrom B (fun m W => BytSt w a m W) :=
  OwnFrom.and (Own.from (fun s X Y row hs hg hr => ⟨rowIs_own _ _ _ (fun m : Nat => outAt a m) s X Y row hs.1 hg hr, boxed_own _ _ (fun m : Nat => Value.int .i64 ((32 - m : Nat) : Int)) s X Y row hs.2.1 hg hr,
    Arr4.own _ _ (fun _ : Nat => _) s X Y row hs.2.2.1 hg hr, boxed_own _ _ (fun _ : Nat => _) s X Y row hs.2.2.2 hg hr⟩) _) (ownFrom_below (Nat.le_refl _) hB)

/-- What is left of a part when i of its bytes are told. -/
def partAt (a k : Nat) : Nat → Int
  | 0 => lim a k
  | i + 1 => partAt a k i / 256
theorem partAt_eq (a k : Nat) : ∀ i, partAt a k i = lim a k / 256 ^ i
  | 0 => by simp [partAt]
  | i + 1 => by
    show partAt a k i / 256 = _
    rw [partAt_eq a k i]
    obtain ⟨x, hx⟩ := Int.eq_ofNat_of_zero_le (lim_u64 a k).1
    rw [hx, Int.pow_succ]
    have h : ((x / 256 ^ i / 256 : Nat) : Int) = ((x / (256 ^ i * 256) : Nat) : Int) := by rw [Nat.div_div_eq_div_mul]
    simpa using h
theorem partAt_u64 (a k i : Nat) : U64 (partAt a k i) := by
  rw [partAt_eq]
  have h := lim_u64 a k
  unfold U64 at *
  exact ⟨Int.ediv_nonneg h.1 (Int.pow_nonneg (by decide)), Int.lt_of_le_of_lt (Int.ediv_le_self _ h.1) h.2⟩
theorem partAt_byte (a k i : Nat) (hk : k < 4) (hi : i < 8) : IntKind.u8.wrap (partAt a k i) = (byteN a (8 * k + i) : Int) := by
  have h := byteN_lim a k i hk hi
  rw [← partAt_eq] at h
  rw [← h]
  rfl

set_option maxRecDepth 100000 in
set_option maxHeartbeats 2000000 in
theorem bytes_ret (a : Nat) (_ha : W256 a) : Ret Tryz.prog 25 #[wv a] (.string (bytesOf a)) := by
  intro w
  unfold wv
  have h1 : 1 ≤ 4 := by omega
  refine (callsIn_wide (n := 4)).1 ?_
  refine callsIn_of_wp_marks Tryz.func25 rfl trivial ?_ rfl
  simp only [Tryz.ntmps25, List.size_toArray, List.length_cons, List.length_nil, Nat.reduceAdd, Nat.reduceSub, Array.replicate_succ, Array.replicate_zero, List.push_toArray, List.append_toArray, List.nil_append, List.cons_append]
  gi_wp2_with (gi_at_call 47; refine (callsIn_free free_wide (parts_any _ _)).mono ?_; rintro e w' ⟨rfl, rfl⟩)
  obtain ⟨W0, hW0⟩ : ∃ W0, ((((w.alloc (.cells #[.int .u64 (lim a 0), .int .u64 (lim a 1), .int .u64 (lim a 2), .int .u64 (lim a 3)] 25)).alloc (.cells #[.int .u8 0, .int .u8 0, .int .u8 0, .int .u8 0, .int .u8 0, .int .u8 0, .int .u8 0, .int .u8 0, .int .u8 0, .int .u8 0, .int .u8 0, .int .u8 0, .int .u8 0, .int .u8 0, .int .u8 0, .int .u8 0, .int .u8 0, .int .u8 0, .int .u8 0, .int .u8 0, .int .u8 0, .int .u8 0, .int .u8 0, .int .u8 0, .int .u8 0, .int .u8 0, .int .u8 0, .int .u8 0, .int .u8 0, .int .u8 0, .int .u8 0, .int .u8 0] 84)).alloc (.cells #[.int .i64 32] 3)).alloc (.cells #[.pointer (some ⟨w.heap.size, 0, none⟩)] 88)) = W0 := ⟨_, rfl⟩
  have hsz : W0.heap.size = w.heap.size + 4 := by rw [← hW0]; simp
  have hJ0 : BytSt w a 0 W0 := by
    rw [← hW0]
    refine ⟨⟨?_, ?_, ?_, ?_⟩, ((((Below.refl _ w).alloc (Nat.le_refl _) _).alloc (by simp) _).alloc (by simp; omega) _).alloc (by simp; omega) _⟩
    · have h := World.rowIs_alloc (w.alloc (.cells #[.int .u64 (lim a 0), .int .u64 (lim a 1), .int .u64 (lim a 2), .int .u64 (lim a 3)] 25)) #[.int .u8 0, .int .u8 0, .int .u8 0, .int .u8 0, .int .u8 0, .int .u8 0, .int .u8 0, .int .u8 0, .int .u8 0, .int .u8 0, .int .u8 0, .int .u8 0, .int .u8 0, .int .u8 0, .int .u8 0, .int .u8 0, .int .u8 0, .int .u8 0, .int .u8 0, .int .u8 0, .int .u8 0, .int .u8 0, .int .u8 0, .int .u8 0, .int .u8 0, .int .u8 0, .int .u8 0, .int .u8 0, .int .u8 0, .int .u8 0, .int .u8 0, .int .u8 0] 84 (outAt a 0) (fun i hi => by
        match i, hi with
        | 0, _ => rfl
        | 1, _ => rfl
        | 2, _ => rfl
        | 3, _ => rfl
        | 4, _ => rfl
        | 5, _ => rfl
        | 6, _ => rfl
        | 7, _ => rfl
        | 8, _ => rfl
        | 9, _ => rfl
        | 10, _ => rfl
        | 11, _ => rfl
        | 12, _ => rfl
        | 13, _ => rfl
        | 14, _ => rfl
        | 15, _ => rfl
        | 16, _ => rfl
        | 17, _ => rfl
        | 18, _ => rfl
        | 19, _ => rfl
        | 20, _ => rfl
        | 21, _ => rfl
        | 22, _ => rfl
        | 23, _ => rfl
        | 24, _ => rfl
        | 25, _ => rfl
        | 26, _ => rfl
        | 27, _ => rfl
        | 28, _ => rfl
        | 29, _ => rfl
        | 30, _ => rfl
        | 31, _ => rfl
        | n + 32, h => exact absurd h (by show ¬ (n + 32 < 32); omega))
      rw [World.size_alloc] at h
      exact (h.alloc _).alloc _
    · have h := Boxed.new ((w.alloc (.cells #[.int .u64 (lim a 0), .int .u64 (lim a 1), .int .u64 (lim a 2), .int .u64 (lim a 3)] 25)).alloc (.cells #[.int .u8 0, .int .u8 0, .int .u8 0, .int .u8 0, .int .u8 0, .int .u8 0, .int .u8 0, .int .u8 0, .int .u8 0, .int .u8 0, .int .u8 0, .int .u8 0, .int .u8 0, .int .u8 0, .int .u8 0, .int .u8 0, .int .u8 0, .int .u8 0, .int .u8 0, .int .u8 0, .int .u8 0, .int .u8 0, .int .u8 0, .int .u8 0, .int .u8 0, .int .u8 0, .int .u8 0, .int .u8 0, .int .u8 0, .int .u8 0, .int .u8 0, .int .u8 0] 84)) 3 (.int .i64 32)
      rw [World.size_alloc, World.size_alloc] at h
      exact h.alloc _
    · exact (((Arr4.word w _ a).alloc _).alloc _).alloc _
    · have h := Boxed.new (((w.alloc (.cells #[.int .u64 (lim a 0), .int .u64 (lim a 1), .int .u64 (lim a 2), .int .u64 (lim a 3)] 25)).alloc (.cells #[.int .u8 0, .int .u8 0, .int .u8 0, .int .u8 0, .int .u8 0, .int .u8 0, .int .u8 0, .int .u8 0, .int .u8 0, .int .u8 0, .int .u8 0, .int .u8 0, .int .u8 0, .int .u8 0, .int .u8 0, .int .u8 0, .int .u8 0, .int .u8 0, .int .u8 0, .int .u8 0, .int .u8 0, .int .u8 0, .int .u8 0, .int .u8 0, .int .u8 0, .int .u8 0, .int .u8 0, .int .u8 0, .int .u8 0, .int .u8 0, .int .u8 0, .int .u8 0] 84)).alloc (.cells #[.int .i64 32] 3)) 88 (.pointer (some ⟨w.heap.size, 0, none⟩))
      simpa using h
  rw [hW0]
  clear hW0
  refine wpIn_rangeFunc_N1 rfl h1 (gf := 65) (lb := #[.pointer (some ⟨w.heap.size + 1 + 1 + 1, 0, none⟩)]) rfl trivial (enters_of Tryz.func65 (by kernel_rfl) rfl)
    (parts_seq _ (by omega) _ _ (lim a) W0 (by omega) (by omega) hJ0.1.2.2.2.cell (fun j hj => hJ0.1.2.2.1.cell hj)) KeepsAt.trans (KeepsAt.refl _) (KeepsAt.b (by simp; omega)) (fun _ _ => rfl)
    (fun k W => BytSt w a (8 * k) W)
    (fun _ _ _ => False)
    (fun s => BytSt.own w a _ (by omega) (8 * s))
    (fun _ _ _ _ _ hs _ _ => hs)
    hJ0
    (fun k => { tmps := #[.agg #[.int .u64 (lim a 0), .int .u64 (lim a 1), .int .u64 (lim a 2), .int .u64 (lim a 3)], .pointer (some ⟨w.heap.size, 0, none⟩), .string { data := #[] }, .pointer (some ⟨w.heap.size + 1, 0, none⟩), .pointer (some ⟨w.heap.size + 1 + 1, 0, none⟩), undef, .int .u64 (lim a k), .func (.func 65) #[] #[.pointer (some ⟨w.heap.size + 1 + 1 + 1, 0, none⟩)], .int .i64 (k : Int), .int .u64 (lim a k), undef, undef, undef, undef, undef, undef, undef, undef, undef, undef, undef, undef, undef], defers := [] }) ?assign ?body ?done ?stop
  case assign =>
    intro l k W K _ hK
    gi_wp2
    exact hK
  case body =>
    rintro l k W _ hk4 hst
    gi_wp2
    gi_loopw [6, 10] (fun p i wr => ∃ m : Nat, m ≤ 8 ∧ i = .int .i64 m ∧ p = .int .u64 (partAt a k m) ∧ BytSt w a (8 * k + m) wr ∧ KeepsAt [w.heap.size, w.heap.size + 1 + 1 + 1] W wr ∧ KeepsFrom W0.heap.size W wr) (fun p i _ => 8 - (intOf i).toNat)
    case atStart => exact ⟨0, by omega, rfl, rfl, hst, KeepsAt.refl _ _, KeepsFrom.refl _ _⟩
    case round =>
      obtain ⟨m, hm, rfl, rfl, ⟨⟨b1, b2, b3, b4⟩, hB⟩, hKa, hKf⟩ := hrel
      have hl1 := b1.lt
      have hl4 := b4.lt
      by_cases hlt : m < 8
      · have hu := partAt_u64 a k m
        obtain ⟨hu0, hu1⟩ := hu
        have hby := Lib.hid (partAt_byte a k m hk4 hlt)
        have hps : Hid (partAt a k (m + 1) = partAt a k m / 256) := rfl
        obtain ⟨q, hq⟩ : ∃ q : Nat, q + (8 * k + m) = 31 := ⟨31 - (8 * k + m), by omega⟩
        have c2 := b2.cell
        have f2 := b2.frozen
        rw [show ((32 - (8 * k + m) : Nat) : Int) = (q : Int) + 1 by omega] at c2
        have c1 : wr.cell? ⟨w.heap.size + 1, q, none⟩ = some (outAt a (8 * k + m) q) := b1.cell (by omega)
        have f1 := b1.frozen q
        have hq0 : (0 : Int) ≤ (q : Int) := by omega
        have hq1 : (q : Int) < 32 := by omega
        have hm8 : (m : Int) < 8 := by omega
        have hst' : BytSt w a (8 * k + (m + 1)) ((wr.setCell ⟨w.heap.size + 1 + 1, 0, none⟩ (.int .i64 (q : Int))).setCell ⟨w.heap.size + 1, q, none⟩ (.int .u8 (IntKind.u8.wrap (partAt a k m)))) := by
          refine ⟨⟨?_, ?_, ?_, ?_⟩, (hB.setCell (p := ⟨w.heap.size + 1 + 1, 0, none⟩) (by simp; omega) _).setCell (p := ⟨w.heap.size + 1, q, none⟩) (by simp) _⟩
          · have h := (b1.setOther (a := ⟨w.heap.size + 1 + 1, 0, none⟩) (by simp) (.int .i64 (q : Int))).set q (.int .u8 (IntKind.u8.wrap (partAt a k m)))
            rw [hby.out, show q = 31 - (8 * k + m) by omega, outAt_succ a (8 * k + m) (by omega)] at h
            rw [hby.out, show q = 31 - (8 * k + m) by omega]
            exact h.congr (fun i hi => (if_pos hi).trans rfl)
          · have h := Boxed.away (Boxed.set (.int .i64 (q : Int)) b2) (p := ⟨w.heap.size + 1, q, none⟩) (by simp) (.int .u8 (IntKind.u8.wrap (partAt a k m)))
            rw [show ((32 - (8 * k + (m + 1)) : Nat) : Int) = (q : Int) by omega]
            exact h
          · exact Arr4.other (Arr4.other b3 (by simp; omega) _) (by simp) _
          · exact Boxed.away (Boxed.away b4 (by simp) _) (by simp; omega) _
        have HS := Lib.hid hst'
        have HB := Lib.hid hB
        clear hst' b1 b2 b3 b4 hst hB hJ0 hq
        gi_wp2
        go_roundw
        case rel => exact ⟨m + 1, by omega, by simp, by rw [hps.out], HS.out, (hKa.setCell (by first | (simp; done) | (simp; omega)) _).setCell (by first | (simp; done) | (simp; omega)) _, (hKf.trans ((KeepsOthers.setCell _ _ _).from _)).trans ((KeepsOthers.setCell _ _ _).from _)⟩
        case measure => simp [intOf]; omega
      · obtain rfl : m = 8 := by omega
        gi_wp2
        exact ⟨hKf, hKa, ⟨⟨b1, b2, b3, b4⟩, hB⟩⟩
  case done =>
    rintro D W hD ⟨⟨b1, b2, b3, b4⟩, hB⟩ hK
    have hcv := run_convert_bytes_arg (P := Tryz.prog) W 49 5 Tryz.underlying49 Tryz.underlying5 (w.heap.size + 1) 0 32 32 ((List.range 32).map fun j => (byteN a (31 - j) : Int)) (by simp) (fun i hi => by
      have h := b1.cell hi
      rw [Nat.zero_add, h]
      unfold outAt
      rw [if_pos (by omega)]
      simp [hi]) 9 Tryz.underlying9
    have HK := Lib.hid hK
    have HB := Lib.hid hB
    have e : strOfNums ((List.range 32).map fun j => (byteN a (31 - j) : Int)) = bytesOf a := rfl
    rw [e] at hcv
    clear e b1 b2 b3 b4 hK hB hJ0
    gi_wp2
    refine ⟨by simp, .inl ⟨_, _, rfl, run_takeDeferred HK.out, ?_⟩⟩
    exact ⟨_, results_tmp rfl _ _ _, rfl, HB.out.trans (belowK_b (w := w) (Nat.le_refl _) _ D _ _ (by omega) HK.out rfl rfl)⟩
  case stop =>
    rintro D c k W _ _ h _
    exact h.elim
end Go.Proofs.YtbbpmcebakckaaaGreatDoor

/- Digits and pieces of texts. For every text. -/
namespace Go.Proofs.YtbbpmcebakckaaaGreatDoor
open Go Go.RowKit Go.Shelf
attribute [local go_sem] Oper.semAt_some Grows wide_fn

/-- A kind of digits: its base, and which byte is which one. -/
structure Kind where
  base : Nat
  dig : UInt8 → Option Nat
  pos : 2 ≤ base
  top : base ≤ 256
  lt : ∀ c v, dig c = some v → v < base
def decD (c : UInt8) : Option Nat := if 48 ≤ c.toNat ∧ c.toNat ≤ 57 then some (c.toNat - 48) else none
def hexD (c : UInt8) : Option Nat := if 48 ≤ c.toNat ∧ c.toNat ≤ 57 then some (c.toNat - 48) else if 97 ≤ c.toNat ∧ c.toNat ≤ 102 then some (c.toNat - 97 + 10) else none
theorem decD_lt (c : UInt8) (v : Nat) (h : decD c = some v) : v < 10 := by
  unfold decD at h
  split at h
  · cases h; omega
  · cases h
theorem hexD_lt (c : UInt8) (v : Nat) (h : hexD c = some v) : v < 16 := by
  unfold hexD at h
  split at h
  · cases h; omega
  · split at h
    · cases h; omega
    · cases h
def octK : Kind := ⟨256, fun c => some c.toNat, by decide, by decide, fun c v h => by cases h; exact c.toNat_lt⟩
def decK : Kind := ⟨10, decD, by decide, by decide, decD_lt⟩
def hexK : Kind := ⟨16, hexD, by decide, by decide, hexD_lt⟩

/-- The number of digits, behind one that there was; none: one of them is no digit. -/
def numFrom (K : Kind) (n : Nat) : List UInt8 → Option Nat
  | [] => some n
  | c :: r => match K.dig c with | some v => numFrom K (n * K.base + v) r | none => none
theorem numFrom_append (K : Kind) : ∀ (a : List UInt8) (n : Nat) (b : List UInt8), numFrom K n (a ++ b) = (numFrom K n a).bind fun m => numFrom K m b
  | [], n, b => rfl
  | c :: r, n, b => by
    simp only [List.cons_append, numFrom]
    cases K.dig c with
    | none => rfl
    | some v => exact numFrom_append K r _ b
theorem numFrom_lt (K : Kind) : ∀ (l : List UInt8) (n m : Nat), numFrom K n l = some m → m < (n + 1) * K.base ^ l.length
  | [], n, m, h => by cases h; simp
  | c :: r, n, m, h => by
    simp only [numFrom] at h
    cases hd : K.dig c with
    | none => rw [hd] at h; cases h
    | some v =>
      rw [hd] at h
      have h1 := numFrom_lt K r _ m h
      have h2 := K.lt c v hd
      refine Nat.lt_of_lt_of_le h1 ?_
      rw [List.length_cons, Nat.pow_succ, Nat.mul_comm (K.base ^ r.length), ← Nat.mul_assoc]
      exact Nat.mul_le_mul_right _ (by rw [Nat.add_mul]; omega)
theorem numFrom_zero (K : Kind) : ∀ (l : List UInt8) (n : Nat), numFrom K n l = (numFrom K 0 l).map fun m => n * K.base ^ l.length + m
  | [], n => by simp [numFrom]
  | c :: r, n => by
    simp only [numFrom]
    cases hd : K.dig c with
    | none => rfl
    | some v =>
      simp only []
      rw [numFrom_zero K r (n * K.base + v), numFrom_zero K r (0 * K.base + v)]
      cases numFrom K 0 r with
      | none => rfl
      | some m =>
        simp only [Option.map_some, List.length_cons, Nat.pow_succ, Option.some.injEq]
        rw [Nat.add_mul, Nat.add_mul, Nat.mul_assoc, Nat.mul_comm K.base (K.base ^ r.length)]
        omega
/-- What a piece tells. -/
def smallV (K : Kind) (l : List UInt8) : Value := match numFrom K 0 l with
  | some n => .tuple #[.int .u64 (n : Int), .int .u64 ((K.base ^ l.length : Nat) : Int), .bool true]
  | none => .tuple #[.int .u64 0, .int .u64 0, .bool false]

theorem meth_oct_base (v : Value) (W : World) : (method 313 95 v "railhead/word.base").run Tryz.prog W = .ok (123, v) W := by kernel_rfl
theorem meth_oct_value (v : Value) (W : World) : (method 313 95 v "railhead/word.value").run Tryz.prog W = .ok (124, v) W := by kernel_rfl
/-- What one digit tells. -/
def digV : Option Nat → Value
  | some v => .tuple #[.int .u64 (v : Int), .bool true]
  | none => .tuple #[.int .u64 0, .bool false]
def SameRet (P : Program) (f : FuncId) (args : Array Value) (v : Value) : Prop := ∀ w, Calls P f args w fun e w' => e = .returned v ∧ w = w'

theorem base_oct (v : Value) : SameRet Tryz.prog 123 #[v] (.int .u64 256) := by
  intro w
  go_enter Tryz.func123, Tryz.ntmps123
  go_wp2
  go_ret
  exact ⟨rfl, rfl⟩
theorem value_oct (c : UInt8) : SameRet Tryz.prog 124 #[.int .u8 (c.toNat : Int)] (digV (octK.dig c)) := by
  intro w
  show Calls _ _ _ _ fun e w' => e = .returned (.tuple #[.int .u64 (c.toNat : Int), .bool true]) ∧ w = w'
  have h := c.toNat_lt
  go_enter Tryz.func124, Tryz.ntmps124
  go_wp2
  go_ret2
  exact ⟨rfl, rfl⟩

theorem octK_base : octK.base = 256 := rfl
theorem decK_base : decK.base = 10 := rfl
theorem hexK_base : hexK.base = 16 := rfl
theorem take_snoc (s : ByteArray) (k : Nat) (h : k < s.size) : s.data.toList.take (k + 1) = s.data.toList.take k ++ [s[k]] := by
  rw [List.take_succ_eq_append_getElem (by simpa using h)]; rfl
theorem numFrom_snoc (K : Kind) (l : List UInt8) (c : UInt8) : numFrom K 0 (l ++ [c]) = (numFrom K 0 l).bind fun n => (K.dig c).map fun v => n * K.base + v := by
  rw [numFrom_append]
  cases numFrom K 0 l with
  | none => rfl
  | some n => simp only [Option.bind_some, numFrom]; cases K.dig c <;> rfl
theorem numFrom_bad (K : Kind) (s : ByteArray) (k : Nat) (h : k < s.size) (hd : K.dig s[k] = none) : numFrom K 0 s.data.toList = none := by
  have e : s.data.toList = s.data.toList.take k ++ (s[k] :: s.data.toList.drop (k + 1)) := by
    have := List.take_append_drop k s.data.toList
    rw [List.drop_eq_getElem_cons (by simpa using h)] at this
    exact this.symm
  rw [e, numFrom_append]
  cases numFrom K 0 (s.data.toList.take k) with
  | none => rfl
  | some n => simp only [Option.bind_some, numFrom, hd]

set_option maxRecDepth 100000 in
set_option maxHeartbeats 2000000 in
theorem small_oct (s : ByteArray) (hs : s.size ≤ 7) : SameRet Tryz.prog 72 #[.string s] (smallV octK s.data.toList) := by
  intro w
  have hmb := meth_oct_base
  have hmv := meth_oct_value
  go_enter Tryz.func72, Tryz.ntmps72
  go_wp2_with (go_at_call 123; refine (base_oct _ _).mono ?_; rintro e w' ⟨rfl, rfl⟩)
  go_loop [2, 3, 4, 14] (fun n u b i => ∃ k m : Nat, b = .bool false ∧ k ≤ s.size ∧ numFrom octK 0 (s.data.toList.take k) = some m ∧ i = .int .i64 k ∧ n = .int .u64 (m : Int) ∧ u = .int .u64 ((256 ^ k : Nat) : Int)) (fun _ _ _ i => s.size - (intOf i).toNat)
  case atStart => exact ⟨0, 0, rfl, Nat.zero_le _, rfl, rfl, rfl, rfl⟩
  case round =>
    obtain ⟨k, m, rfl, hk, hnum, rfl, rfl, rfl⟩ := hrel
    have hm := numFrom_lt octK _ _ _ hnum
    rw [octK_base, List.length_take, Nat.min_eq_left (by simpa using hk), Nat.zero_add, Nat.one_mul] at hm
    by_cases hlt : k < s.size
    · have hpow : 256 ^ k ≤ 256 ^ 6 := Nat.pow_le_pow_right (by decide) (by omega)
      have hpc := Nat.pow_succ (n := 256) (m := k)
      have hsn := numFrom_snoc octK (s.data.toList.take k) s[k]
      rw [← take_snoc s k hlt, hnum] at hsn
      have hv := value_oct s[k]
      cases hd : octK.dig s[k] with
      | none =>
        have hfin : smallV octK s.data.toList = .tuple #[.int .u64 0, .int .u64 0, .bool false] := by unfold smallV; rw [numFrom_bad octK s k hlt hd]
        rw [hd] at hv
        have HV : SameRet Tryz.prog 124 #[.int .u8 (s[k].toNat : Int)] (.tuple #[.int .u64 0, .bool false]) := hv
        have HF := Lib.hid hfin
        clear hsn hpc hpow hm hnum hv hd hfin
        go_wp2_with (go_at_call 124; refine (HV _).mono ?_; rintro e w' ⟨rfl, rfl⟩)
        refine bodyPost_ret (v := .tuple #[.int .u64 0, .int .u64 0, .bool false]) (by simp [results, Tryz.results72, go_sem]) rfl ⟨by rw [HF.out], rfl⟩
      | some v =>
        rw [hd] at hv hsn
        have hvl := octK.lt _ _ hd
        have HV : SameRet Tryz.prog 124 #[.int .u8 (s[k].toNat : Int)] (.tuple #[.int .u64 (v : Int), .bool true]) := hv
        simp only [Option.bind_some, Option.map_some, octK_base] at hsn
        rw [octK_base] at hvl
        have hpI : ((256 ^ k : Nat) : Int) ≤ 281474976710656 := (by have h6 : (256 : Nat) ^ 6 = 281474976710656 := (by decide); omega)
        have hp0 : (0 : Int) ≤ ((256 ^ k : Nat) : Int) := by omega
        have hm0 : (m : Int) < ((256 ^ k : Nat) : Int) := by omega
        have HS := Lib.hid hsn
        have HP : Hid (((256 ^ (k + 1) : Nat) : Int) = ((256 ^ k : Nat) : Int) * 256) := by rw [hpc]; exact Int.natCast_mul ..
        have hv0 : (v : Int) < 256 := by omega
        have w1 : IntKind.u64.wrap ((m : Int) * 256) = (m : Int) * 256 := by rw [IntKind.wrap_u64]; omega
        have w2 : IntKind.u64.wrap ((m : Int) * 256 + v) = (m : Int) * 256 + v := by rw [IntKind.wrap_u64]; omega
        have w3 : IntKind.u64.wrap (((256 ^ k : Nat) : Int) * 256) = ((256 ^ k : Nat) : Int) * 256 := by rw [IntKind.wrap_u64]; omega
        generalize ((256 ^ k : Nat) : Int) = P at *
        clear hsn hpc hpow hm hnum hv hd hvl hp0 hm0 hpI
        go_wp2_with (go_at_call 124; refine (HV _).mono ?_; rintro e w' ⟨rfl, rfl⟩)
        go_round
        case rel => exact ⟨k + 1, m * 256 + v, rfl, by omega, HS.out, by simp, by rw [Int.natCast_add, Int.natCast_mul]; rfl, by rw [HP.out]⟩
        case measure => simp [intOf]; omega
    · obtain rfl : k = s.size := by omega
      have hfin : smallV octK s.data.toList = .tuple #[.int .u64 (m : Int), .int .u64 ((256 ^ s.size : Nat) : Int), .bool true] := by
        have e : s.data.toList.take s.size = s.data.toList := List.take_of_length_le (by simp)
        rw [e] at hnum
        unfold smallV; rw [hnum, octK_base]; simp
      have HF := Lib.hid hfin
      generalize ((256 ^ s.size : Nat) : Int) = P at *
      clear hnum hm hfin
      go_wp2
      refine bodyPost_ret (v := .tuple #[.int .u64 (m : Int), .int .u64 P, .bool true]) (by simp [results, Tryz.results72, go_sem]) rfl ⟨by rw [HF.out], rfl⟩

end Go.Proofs.YtbbpmcebakckaaaGreatDoor

/- The iterator over a text's pieces. For every text that is not beyond the model's reach. -/
namespace Go.Proofs.YtbbpmcebakckaaaGreatDoor
open Go Go.RowKit Go.Shelf
attribute [local go_sem] Oper.semAt_some wide_fn

/-- Piece k of a text. -/
def piece (s : ByteArray) (k : Nat) : ByteArray := s.extract (7 * k) (min (7 * k + 7) s.size)

set_option maxRecDepth 100000 in
set_option maxHeartbeats 2000000 in
theorem pieces_seq (n : Nat) (hn : 1 ≤ n) (Bs : Nat) (s : ByteArray) (hs : s.size ≤ 140737488355328) (w : World) (hBs : Bs < w.heap.size) (hcB : w.cell? ⟨Bs, 0, none⟩ = some (.string s)) :
    SeqN Fence.wide n Tryz.prog 84 #[.pointer (some ⟨Bs, 0, none⟩)] (fun k => #[.string (piece s k)]) (KeepsAt [Bs]) ((s.size + 6) / 7) w := by
  intro l J Jx W hW _ _ hY h0
  have hBs' := (hW.cell (p := ⟨Bs, 0, none⟩) hBs).trans hcB
  clear hcB
  refine callsIn_of_wp Tryz.func84 rfl trivial ?_ rfl
  simp only [Tryz.ntmps84, List.size_toArray, List.length_cons, List.length_nil, Nat.reduceAdd, Nat.reduceSub, Array.replicate_succ, Array.replicate_zero, List.push_toArray, List.append_toArray, List.nil_append, List.cons_append]
  gi_wp2
  gi_loopw [3] (fun i wr => ∃ k q : Nat, k ≤ (s.size + 6) / 7 ∧ Hid (q = 7 * k) ∧ i = .int .i64 (q : Int) ∧ J k wr ∧ KeepsAt [Bs] W wr)
    (fun i _ => (s.size + 6) / 7 * 7 - (intOf i).toNat)
  case atStart => exact ⟨0, 0, Nat.zero_le _, rfl, rfl, h0, KeepsAt.refl _ _⟩
  case round =>
    obtain ⟨k, q, hk, hq, rfl, hJs, hnx⟩ := hrel
    have hbx : wr.cell? ⟨Bs, 0, none⟩ = some (.string s) := (hnx.cell (p := ⟨Bs, 0, none⟩) (by simp)).trans hBs'
    clear hBs'
    by_cases hlt : q < s.size
    · have hkN : k < (s.size + 6) / 7 := by have := hq.out; omega
      have HK := Lib.hid hkN
      obtain ⟨fn, tmps, assign, body, hy, hR⟩ := hY k wr hkN hJs
      clear hkN hY
      by_cases hfull : q + 7 ≤ s.size
      · have hp : piece s k = s.extract q (q + 7) := by have := hq.out; unfold piece; rw [← this, Nat.min_eq_left hfull]
        rw [hp] at hy
        clear hp
        have z1 : (q : Int) + 7 ≤ (s.size : Int) := by omega
        have z0 : (0 : Int) ≤ (q : Int) := by omega
        have z2 : (q : Int) ≤ (q : Int) + 7 := by omega
        have z3 : (0 : Int) ≤ (q : Int) + 7 := by omega
        gi_wp2
        refine hR.mono ?_
        rintro e W3 (⟨rfl, hJ3, hk3⟩ | ⟨rfl, hJx3⟩)
        · gi_wp2
          go_roundw
          case rel => exact ⟨k + 1, q + 7, by have := hq.out; omega, by have := hq.out; show q + 7 = 7 * (k + 1); omega, by simp, hJ3, hnx.trans hk3⟩
          case measure => have := hq.out; simp [intOf]; omega
        · gi_wp2
          refine bodyPost_ret (results_none rfl _ _ _) rfl ?_
          exact ⟨⟨_, rfl⟩, .inr ⟨k, HK.out, hJx3⟩⟩
      · have hp : piece s k = s.extract q s.size := by have := hq.out; unfold piece; rw [← this, Nat.min_eq_right (by omega)]
        rw [hp] at hy
        clear hp
        have z1 : (s.size : Int) < (q : Int) + 7 := by omega
        have z4 : (s.size : Int) ≤ (q : Int) + 7 := by omega
        have z5 : (q : Int) + 7 ≤ 1000000000000000 := by omega
        have z0 : (0 : Int) ≤ (q : Int) := by omega
        have z2 : (q : Int) ≤ (s.size : Int) := by omega
        have z3 : (0 : Int) ≤ (s.size : Int) := by omega
        gi_wp2
        refine hR.mono ?_
        rintro e W3 (⟨rfl, hJ3, hk3⟩ | ⟨rfl, hJx3⟩)
        · gi_wp2
          go_roundw
          case rel => exact ⟨k + 1, q + 7, by have := hq.out; omega, by have := hq.out; show q + 7 = 7 * (k + 1); omega, by simp, hJ3, hnx.trans hk3⟩
          case measure => have := hq.out; simp [intOf]; omega
        · gi_wp2
          refine bodyPost_ret (results_none rfl _ _ _) rfl ?_
          exact ⟨⟨_, rfl⟩, .inr ⟨k, HK.out, hJx3⟩⟩
    · have hk2 : k = (s.size + 6) / 7 := by have := hq.out; omega
      have HJ : Hid (J ((s.size + 6) / 7) wr) := by rw [← hk2]; exact hJs
      clear hJs hk2 hY
      gi_wp2
      go_end0
      exact ⟨⟨_, rfl⟩, .inl HJ.out⟩

theorem pieces_any (s : ByteArray) (w : World) :
    Calls Tryz.prog 71 #[.string s] w fun e w' => e = .returned (.func (.func 84) #[] #[.pointer (some ⟨w.heap.size, 0, none⟩)]) ∧ w' = w.alloc (.cells #[.string s] 9) := by
  go_enter Tryz.func71, Tryz.ntmps71
  go_wp2
  go_ret
  exact ⟨rfl, rfl⟩
end Go.Proofs.YtbbpmcebakckaaaGreatDoor

/- Products of words: two parts, a row, and all rows. For every word. -/
namespace Go.Proofs.YtbbpmcebakckaaaGreatDoor
open Go Go.RowKit Go.Shelf
attribute [local go_sem] Oper.semAt_some Grows wide_fn

set_option maxHeartbeats 1000000 in
theorem mul64_any (x y : Nat) (hx : x < 18446744073709551616) (hy : y < 18446744073709551616) (w : World) :
    Calls Tryz.prog 92 #[.int .u64 x, .int .u64 y] w fun e w' => e = .returned (.tuple #[.int .u64 ((x * y / 18446744073709551616 : Nat) : Int), .int .u64 ((x * y % 18446744073709551616 : Nat) : Int)]) ∧ w = w' := by
  obtain ⟨bd, bt, bw, hhi⟩ := Lib.mul64_hi x y hx hy
  have ba := Lib.half_mul_le (a := x / 4294967296) (b := y / 4294967296) (by omega) (by omega)
  have bb := Lib.half_mul_le (a := x / 4294967296) (b := y % 4294967296) (by omega) (by omega)
  have bc := Lib.half_mul_le (a := x % 4294967296) (b := y / 4294967296) (by omega) (by omega)
  have ba' : x / 4294967296 * (y / 4294967296) < 18446744073709551616 := by omega
  have bb' : x / 4294967296 * (y % 4294967296) < 18446744073709551616 := by omega
  have bc' : x % 4294967296 * (y / 4294967296) < 18446744073709551616 := by omega
  have bh1 : x / 4294967296 * (y / 4294967296) + (x / 4294967296 * (y % 4294967296) + x % 4294967296 * (y % 4294967296) / 4294967296) / 4294967296 < 18446744073709551616 := by omega
  have bh : x / 4294967296 * (y / 4294967296) + (x / 4294967296 * (y % 4294967296) + x % 4294967296 * (y % 4294967296) / 4294967296) / 4294967296 + ((x / 4294967296 * (y % 4294967296) + x % 4294967296 * (y % 4294967296) / 4294967296) % 4294967296 + x % 4294967296 * (y / 4294967296)) / 4294967296 < 18446744073709551616 := by omega
  go_enter Tryz.func92, Tryz.ntmps92
  go_wp2
  simp only [Mul64.maskN x hx, Mul64.maskN y hy, Mul64.divN, Mul64.mulN, Mul64.addN, Mul64.wrapN _ bd, Mul64.wrapN _ bb', Mul64.wrapN _ bt, Mul64.maskN _ bt, Mul64.wrapN _ bc', Mul64.wrapN _ bw, Mul64.wrapN _ ba', Mul64.wrapN _ bh1, Mul64.wrapN _ bh, Mul64.wrapM (x * y)]
  rw [hhi]
  go_ret2
  exact ⟨rfl, rfl⟩

def tpLo (x y p q : Int) : Int := (x * y + p + q) % 18446744073709551616
def tpHi (x y p q : Int) : Int := (x * y + p + q) / 18446744073709551616
theorem tp_bound (x y p q : Int) (hx : U64 x) (hy : U64 y) (hp : U64 p) (hq : U64 q) : U64 (tpLo x y p q) ∧ U64 (tpHi x y p q) := by
  unfold U64 tpLo tpHi at *
  have h1 : 0 ≤ x * y := Int.mul_nonneg hx.1 hy.1
  have h2 : x * y ≤ 18446744073709551615 * 18446744073709551615 := Int.mul_le_mul (by omega) (by omega) hy.1 (by omega)
  generalize x * y = t at *
  omega
/-- Two carries added to the high part do not go beyond it. -/
theorem tp_join (x y p q : Int) (hx : U64 x) (hy : U64 y) (hp : U64 p) (_hq : U64 q) :
    ((x * y % 18446744073709551616 + p) % 18446744073709551616 + q) % 18446744073709551616 = tpLo x y p q ∧
    x * y / 18446744073709551616 + (x * y % 18446744073709551616 + p) / 18446744073709551616 + ((x * y % 18446744073709551616 + p) % 18446744073709551616 + q) / 18446744073709551616 = tpHi x y p q ∧
    U64 (x * y / 18446744073709551616 + (x * y % 18446744073709551616 + p) / 18446744073709551616) ∧ U64 (x * y % 18446744073709551616) ∧ U64 ((x * y % 18446744073709551616 + p) % 18446744073709551616) ∧ U64 (x * y / 18446744073709551616) := by
  unfold U64 tpLo tpHi at *
  have h1 : 0 ≤ x * y := Int.mul_nonneg hx.1 hy.1
  have h2 : x * y ≤ 18446744073709551615 * 18446744073709551615 := Int.mul_le_mul (by omega) (by omega) hy.1 (by omega)
  generalize x * y = t at *
  omega

set_option maxHeartbeats 1000000 in
theorem timesPlus_any (x y p q : Int) (hx : U64 x) (hy : U64 y) (hp : U64 p) (hq : U64 q) (w : World) :
    Calls Tryz.prog 85 #[.int .u64 x, .int .u64 y, .int .u64 p, .int .u64 q] w fun e w' => e = .returned (.tuple #[.int .u64 (tpLo x y p q), .int .u64 (tpHi x y p q)]) ∧ w = w' := by
  obtain ⟨e1, e2, u1, u2, u3, u4⟩ := tp_join x y p q hx hy hp hq
  obtain ⟨b1, b2⟩ := tp_bound x y p q hx hy hp hq
  have hm : ∀ w, Calls Tryz.prog 92 #[.int .u64 x, .int .u64 y] w fun e w' => e = .returned (.tuple #[.int .u64 (x * y / 18446744073709551616), .int .u64 (x * y % 18446744073709551616)]) ∧ w = w' := by
    intro w
    obtain ⟨x, rfl⟩ := Int.eq_ofNat_of_zero_le hx.1
    obtain ⟨y, rfl⟩ := Int.eq_ofNat_of_zero_le hy.1
    exact mul64_any x y (by have := hx.2; omega) (by have := hy.2; omega) w
  rw [← e2]
  rw [← e2] at b2
  rw [← e1]
  clear e1 e2 b1
  generalize x * y / 18446744073709551616 = hi at *
  generalize x * y % 18446744073709551616 = lo at *
  have r1 := fun W => run_addc lo p 0 u2 hp bit_zero W
  have r2 := fun W => run_addc ((lo + p) % 18446744073709551616) q 0 u3 hq bit_zero W
  simp only [Int.add_zero] at r1 r2
  generalize (lo + p) % 18446744073709551616 = s1 at *
  generalize (lo + p) / 18446744073709551616 = c1 at *
  generalize (s1 + q) % 18446744073709551616 = s2 at *
  generalize (s1 + q) / 18446744073709551616 = c2 at *
  have w1 : IntKind.u64.wrap (hi + c1) = hi + c1 := by rw [IntKind.wrap_u64]; unfold U64 at u1; omega
  have w2 : IntKind.u64.wrap (hi + c1 + c2) = hi + c1 + c2 := by rw [IntKind.wrap_u64]; unfold U64 at b2; omega
  have HM := Lib.hid hm
  clear hm u1 u2 u3 u4 b2 hx hy hp hq
  go_enter Tryz.func85, Tryz.ntmps85
  go_wp2_with fail
  refine (HM.out _).mono ?_
  rintro e w' ⟨rfl, rfl⟩
  go_wp2
  go_ret2
  exact ⟨rfl, rfl⟩
end Go.Proofs.YtbbpmcebakckaaaGreatDoor

/- A row of a product: a word times a factor, added to places of a sum. For every word and factor. -/
namespace Go.Proofs.YtbbpmcebakckaaaGreatDoor
open Go Go.RowKit Go.Shelf
attribute [local go_sem] Oper.semAt_some Grows wide_fn

/-- The carry into place k, and what place k becomes. -/
def rc (z : Nat → Int) (f : Int) (m : Nat → Int) : Nat → Int
  | 0 => 0
  | k + 1 => tpHi (z k) f (m k) (rc z f m k)
def ro (z : Nat → Int) (f : Int) (m : Nat → Int) (k : Nat) : Int := tpLo (z k) f (m k) (rc z f m k)
theorem rc_u64 (z : Nat → Int) (f : Int) (m : Nat → Int) (hz : ∀ k, U64 (z k)) (hf : U64 f) (hm : ∀ k, U64 (m k)) : ∀ k, U64 (rc z f m k)
  | 0 => ⟨by simp [rc], by simp [rc]⟩
  | k + 1 => (tp_bound _ _ _ _ (hz k) hf (hm k) (rc_u64 z f m hz hf hm k)).2
theorem ro_u64 (z : Nat → Int) (f : Int) (m : Nat → Int) (hz : ∀ k, U64 (z k)) (hf : U64 f) (hm : ∀ k, U64 (m k)) (k : Nat) : U64 (ro z f m k) :=
  (tp_bound _ _ _ _ (hz k) hf (hm k) (rc_u64 z f m hz hf hm k)).1

/-- The places from off on that have been gone through. -/
def rowAt (z : Nat → Int) (f : Int) (M : Nat → Int) (off k j : Nat) : Int := if off ≤ j ∧ j < off + k then ro z f (fun i => M (off + i)) (j - off) else M j
theorem rowAt_zero (z : Nat → Int) (f : Int) (M : Nat → Int) (off : Nat) : rowAt z f M off 0 = M := by funext j; unfold rowAt; rw [if_neg (by omega)]
theorem rowAt_here (z : Nat → Int) (f : Int) (M : Nat → Int) (off k : Nat) : rowAt z f M off k (off + k) = M (off + k) := by unfold rowAt; rw [if_neg (by omega)]
theorem rowAt_succ (z : Nat → Int) (f : Int) (M : Nat → Int) (off k : Nat) : rowAt z f M off (k + 1) = fun j => if j = off + k then ro z f (fun i => M (off + i)) k else rowAt z f M off k j := by
  funext j; unfold rowAt
  by_cases h : j = off + k
  · subst h; rw [if_pos (by omega), if_pos rfl, show off + k - off = k by omega]
  · rw [if_neg h]
    by_cases h2 : off ≤ j ∧ j < off + k
    · rw [if_pos (by omega), if_pos h2]
    · rw [if_neg (by omega), if_neg h2]

theorem size_own {β : Type} (B n : Nat) : OwnFrom B (fun (_ : β) W => n ≤ W.heap.size) := fun _ _ _ _ hs hg _ => Nat.le_trans hs hg.size
theorem grownBy_own {β : Type} (w : World) (S B : Nat) (hB : w.heap.size ≤ B) : OwnFrom B (fun (_ : β) W => w.grownBy W (some S)) := fun _ X Y row hs hg hr =>
  ⟨hg.os.trans hs.os, hg.tape.trans hs.tape, hg.output.trans hs.output, Nat.le_trans hs.size hg.size, fun k hk hne => (hg.block k (Nat.lt_of_lt_of_le hk hs.size) (fun e => by
    obtain ⟨h1, _⟩ := hr k e.symm
    omega)).trans (hs.block k hk hne)⟩
end Go.Proofs.YtbbpmcebakckaaaGreatDoor

/- Products of words, row by row: plain arithmetic. -/
namespace Go.Proofs.YtbbpmcebakckaaaGreatDoor
open Go Go.RowKit

theorem num_mul (z : Nat → Int) (f : Int) : num z * f = z 0 * f + z 1 * f * 18446744073709551616 + z 2 * f * 340282366920938463463374607431768211456 + z 3 * f * 6277101735386680763835789423207666416102355444464034512896 := by
  unfold num
  rw [Int.add_mul, Int.add_mul, Int.add_mul, Int.mul_right_comm (z 1), Int.mul_right_comm (z 2), Int.mul_right_comm (z 3)]
theorem tp_step (x y p q : Int) : tpLo x y p q + 18446744073709551616 * tpHi x y p q = x * y + p + q := Int.emod_add_mul_ediv ..
theorem row_num0 (z : Nat → Int) (f : Int) (M : Nat → Int) : ∃ c, num (rowAt z f M 0 4) + 115792089237316195423570985008687907853269984665640564039457584007913129639936 * c = num M + num z * f * 1 := by
  rw [num_mul]
  have k0 : ro z f (fun i => M (0 + i)) 0 + 18446744073709551616 * rc z f (fun i => M (0 + i)) 1 = z 0 * f + M 0 + rc z f (fun i => M (0 + i)) 0 := tp_step ..
  have k1 : ro z f (fun i => M (0 + i)) 1 + 18446744073709551616 * rc z f (fun i => M (0 + i)) 2 = z 1 * f + M 1 + rc z f (fun i => M (0 + i)) 1 := tp_step ..
  have k2 : ro z f (fun i => M (0 + i)) 2 + 18446744073709551616 * rc z f (fun i => M (0 + i)) 3 = z 2 * f + M 2 + rc z f (fun i => M (0 + i)) 2 := tp_step ..
  have k3 : ro z f (fun i => M (0 + i)) 3 + 18446744073709551616 * rc z f (fun i => M (0 + i)) 4 = z 3 * f + M 3 + rc z f (fun i => M (0 + i)) 3 := tp_step ..
  have kz : rc z f (fun i => M (0 + i)) 0 = 0 := rfl
  have r0 : rowAt z f M 0 4 0 = ro z f (fun i => M (0 + i)) 0 := rfl
  have r1 : rowAt z f M 0 4 1 = ro z f (fun i => M (0 + i)) 1 := rfl
  have r2 : rowAt z f M 0 4 2 = ro z f (fun i => M (0 + i)) 2 := rfl
  have r3 : rowAt z f M 0 4 3 = ro z f (fun i => M (0 + i)) 3 := rfl
  refine ⟨rc z f (fun i => M (0 + i)) 4, ?_⟩
  unfold num
  rw [r0, r1, r2, r3]
  clear r0 r1 r2 r3
  rw [kz] at k0
  clear kz
  generalize ro z f (fun i => M (0 + i)) 0 = o0 at *
  generalize ro z f (fun i => M (0 + i)) 1 = o1 at *
  generalize ro z f (fun i => M (0 + i)) 2 = o2 at *
  generalize ro z f (fun i => M (0 + i)) 3 = o3 at *
  generalize rc z f (fun i => M (0 + i)) 1 = c1 at *
  generalize rc z f (fun i => M (0 + i)) 2 = c2 at *
  generalize rc z f (fun i => M (0 + i)) 3 = c3 at *
  generalize rc z f (fun i => M (0 + i)) 4 = c4 at *
  generalize z 0 * f = p0 at *
  generalize M 0 = m0 at *
  generalize z 1 * f = p1 at *
  generalize M 1 = m1 at *
  generalize z 2 * f = p2 at *
  generalize M 2 = m2 at *
  generalize z 3 * f = p3 at *
  generalize M 3 = m3 at *
  omega
theorem row_num1 (z : Nat → Int) (f : Int) (M : Nat → Int) : ∃ c, num (rowAt z f M 1 3) + 115792089237316195423570985008687907853269984665640564039457584007913129639936 * c = num M + num z * f * 18446744073709551616 := by
  rw [num_mul]
  have k0 : ro z f (fun i => M (1 + i)) 0 + 18446744073709551616 * rc z f (fun i => M (1 + i)) 1 = z 0 * f + M 1 + rc z f (fun i => M (1 + i)) 0 := tp_step ..
  have k1 : ro z f (fun i => M (1 + i)) 1 + 18446744073709551616 * rc z f (fun i => M (1 + i)) 2 = z 1 * f + M 2 + rc z f (fun i => M (1 + i)) 1 := tp_step ..
  have k2 : ro z f (fun i => M (1 + i)) 2 + 18446744073709551616 * rc z f (fun i => M (1 + i)) 3 = z 2 * f + M 3 + rc z f (fun i => M (1 + i)) 2 := tp_step ..
  have kz : rc z f (fun i => M (1 + i)) 0 = 0 := rfl
  have r0 : rowAt z f M 1 3 0 = M 0 := rfl
  have r1 : rowAt z f M 1 3 1 = ro z f (fun i => M (1 + i)) 0 := rfl
  have r2 : rowAt z f M 1 3 2 = ro z f (fun i => M (1 + i)) 1 := rfl
  have r3 : rowAt z f M 1 3 3 = ro z f (fun i => M (1 + i)) 2 := rfl
  refine ⟨rc z f (fun i => M (1 + i)) 3 + z 3 * f * 1, ?_⟩
  unfold num
  rw [r0, r1, r2, r3]
  clear r0 r1 r2 r3
  rw [kz] at k0
  clear kz
  generalize ro z f (fun i => M (1 + i)) 0 = o0 at *
  generalize ro z f (fun i => M (1 + i)) 1 = o1 at *
  generalize ro z f (fun i => M (1 + i)) 2 = o2 at *
  generalize rc z f (fun i => M (1 + i)) 1 = c1 at *
  generalize rc z f (fun i => M (1 + i)) 2 = c2 at *
  generalize rc z f (fun i => M (1 + i)) 3 = c3 at *
  generalize z 0 * f = p0 at *
  generalize M 0 = m0 at *
  generalize z 1 * f = p1 at *
  generalize M 1 = m1 at *
  generalize z 2 * f = p2 at *
  generalize M 2 = m2 at *
  generalize z 3 * f = p3 at *
  generalize M 3 = m3 at *
  omega
theorem row_num2 (z : Nat → Int) (f : Int) (M : Nat → Int) : ∃ c, num (rowAt z f M 2 2) + 115792089237316195423570985008687907853269984665640564039457584007913129639936 * c = num M + num z * f * 340282366920938463463374607431768211456 := by
  rw [num_mul]
  have k0 : ro z f (fun i => M (2 + i)) 0 + 18446744073709551616 * rc z f (fun i => M (2 + i)) 1 = z 0 * f + M 2 + rc z f (fun i => M (2 + i)) 0 := tp_step ..
  have k1 : ro z f (fun i => M (2 + i)) 1 + 18446744073709551616 * rc z f (fun i => M (2 + i)) 2 = z 1 * f + M 3 + rc z f (fun i => M (2 + i)) 1 := tp_step ..
  have kz : rc z f (fun i => M (2 + i)) 0 = 0 := rfl
  have r0 : rowAt z f M 2 2 0 = M 0 := rfl
  have r1 : rowAt z f M 2 2 1 = M 1 := rfl
  have r2 : rowAt z f M 2 2 2 = ro z f (fun i => M (2 + i)) 0 := rfl
  have r3 : rowAt z f M 2 2 3 = ro z f (fun i => M (2 + i)) 1 := rfl
  refine ⟨rc z f (fun i => M (2 + i)) 2 + z 2 * f * 1 + z 3 * f * 18446744073709551616, ?_⟩
  unfold num
  rw [r0, r1, r2, r3]
  clear r0 r1 r2 r3
  rw [kz] at k0
  clear kz
  generalize ro z f (fun i => M (2 + i)) 0 = o0 at *
  generalize ro z f (fun i => M (2 + i)) 1 = o1 at *
  generalize rc z f (fun i => M (2 + i)) 1 = c1 at *
  generalize rc z f (fun i => M (2 + i)) 2 = c2 at *
  generalize z 0 * f = p0 at *
  generalize M 0 = m0 at *
  generalize z 1 * f = p1 at *
  generalize M 1 = m1 at *
  generalize z 2 * f = p2 at *
  generalize M 2 = m2 at *
  generalize z 3 * f = p3 at *
  generalize M 3 = m3 at *
  omega
theorem row_num3 (z : Nat → Int) (f : Int) (M : Nat → Int) : ∃ c, num (rowAt z f M 3 1) + 115792089237316195423570985008687907853269984665640564039457584007913129639936 * c = num M + num z * f * 6277101735386680763835789423207666416102355444464034512896 := by
  rw [num_mul]
  have k0 : ro z f (fun i => M (3 + i)) 0 + 18446744073709551616 * rc z f (fun i => M (3 + i)) 1 = z 0 * f + M 3 + rc z f (fun i => M (3 + i)) 0 := tp_step ..
  have kz : rc z f (fun i => M (3 + i)) 0 = 0 := rfl
  have r0 : rowAt z f M 3 1 0 = M 0 := rfl
  have r1 : rowAt z f M 3 1 1 = M 1 := rfl
  have r2 : rowAt z f M 3 1 2 = M 2 := rfl
  have r3 : rowAt z f M 3 1 3 = ro z f (fun i => M (3 + i)) 0 := rfl
  refine ⟨rc z f (fun i => M (3 + i)) 1 + z 1 * f * 1 + z 2 * f * 18446744073709551616 + z 3 * f * 340282366920938463463374607431768211456, ?_⟩
  unfold num
  rw [r0, r1, r2, r3]
  clear r0 r1 r2 r3
  rw [kz] at k0
  clear kz
  generalize ro z f (fun i => M (3 + i)) 0 = o0 at *
  generalize rc z f (fun i => M (3 + i)) 1 = c1 at *
  generalize z 0 * f = p0 at *
  generalize M 0 = m0 at *
  generalize z 1 * f = p1 at *
  generalize M 1 = m1 at *
  generalize z 2 * f = p2 at *
  generalize M 2 = m2 at *
  generalize z 3 * f = p3 at *
  generalize M 3 = m3 at *
  omega

/-- The places when k rows have been added. -/
def mulAt (a b : Nat → Int) : Nat → Nat → Int
  | 0 => fun _ => 0
  | k + 1 => rowAt a (b k) (mulAt a b k) k (4 - k)
theorem mulAt_u64 (a b : Nat → Int) (ha : ∀ k, U64 (a k)) (hb : ∀ k, U64 (b k)) : ∀ k j, U64 (mulAt a b k j)
  | 0, j => ⟨by simp [mulAt], by simp [mulAt]⟩
  | k + 1, j => by
    have ih := mulAt_u64 a b ha hb k
    show U64 (rowAt a (b k) (mulAt a b k) k (4 - k) j)
    unfold rowAt
    split
    · exact ro_u64 _ _ _ ha (hb k) (fun i => ih _) _
    · exact ih j
theorem mul_parts (a b : Nat) (ha : W256 a) (hb : W256 b) : ∀ k, k < 4 → mulAt (lim a) (lim b) 4 k = lim (wmod (a * b)) k := by
  have u := fun k => mulAt_u64 (lim a) (lim b) (lim_u64 a) (lim_u64 b) 4 k
  obtain ⟨c0, h0⟩ := row_num0 (lim a) (lim b 0) (mulAt (lim a) (lim b) 0)
  obtain ⟨c1, h1⟩ := row_num1 (lim a) (lim b 1) (mulAt (lim a) (lim b) 1)
  obtain ⟨c2, h2⟩ := row_num2 (lim a) (lim b 2) (mulAt (lim a) (lim b) 2)
  obtain ⟨c3, h3⟩ := row_num3 (lim a) (lim b 3) (mulAt (lim a) (lim b) 3)
  have e0 : num (mulAt (lim a) (lim b) 0) = 0 := rfl
  have e1 : num (rowAt (lim a) (lim b 0) (mulAt (lim a) (lim b) 0) 0 4) = num (mulAt (lim a) (lim b) 1) := rfl
  have e2 : num (rowAt (lim a) (lim b 1) (mulAt (lim a) (lim b) 1) 1 3) = num (mulAt (lim a) (lim b) 2) := rfl
  have e3 : num (rowAt (lim a) (lim b 2) (mulAt (lim a) (lim b) 2) 2 2) = num (mulAt (lim a) (lim b) 3) := rfl
  have e4 : num (rowAt (lim a) (lim b 3) (mulAt (lim a) (lim b) 3) 3 1) = num (mulAt (lim a) (lim b) 4) := rfl
  rw [e1, e0] at h0
  rw [e2] at h1
  rw [e3] at h2
  rw [e4] at h3
  have ea := num_lim a ha
  have eb := num_lim b hb
  rw [ea] at h0 h1 h2 h3
  have hab : ((a * b : Nat) : Int) = a * lim b 0 + a * lim b 1 * 18446744073709551616 + a * lim b 2 * 340282366920938463463374607431768211456 + a * lim b 3 * 6277101735386680763835789423207666416102355444464034512896 := by
    rw [Int.natCast_mul, ← eb]
    unfold num
    rw [Int.mul_add, Int.mul_add, Int.mul_add, Int.mul_assoc, Int.mul_assoc, Int.mul_assoc]
  obtain ⟨n0, n1⟩ := num_lt (mulAt (lim a) (lim b) 4) (u 0) (u 1) (u 2) (u 3)
  have key : num (mulAt (lim a) (lim b) 4) = ((wmod (a * b) : Nat) : Int) := by
    unfold wmod
    rw [Int.natCast_emod, hab]
    clear ea eb hab e0 e1 e2 e3 e4 u
    generalize num (mulAt (lim a) (lim b) 4) = t4 at *
    generalize num (mulAt (lim a) (lim b) 3) = t3 at *
    generalize num (mulAt (lim a) (lim b) 2) = t2 at *
    generalize num (mulAt (lim a) (lim b) 1) = t1 at *
    generalize (a : Int) * lim b 0 = p0 at *
    generalize (a : Int) * lim b 1 = p1 at *
    generalize (a : Int) * lim b 2 = p2 at *
    generalize (a : Int) * lim b 3 = p3 at *
    have e : p0 + p1 * 18446744073709551616 + p2 * 340282366920938463463374607431768211456 + p3 * 6277101735386680763835789423207666416102355444464034512896 = t4 + 115792089237316195423570985008687907853269984665640564039457584007913129639936 * (c0 + c1 + c2 + c3) := by omega
    rw [e]
    show t4 = (t4 + 115792089237316195423570985008687907853269984665640564039457584007913129639936 * (c0 + c1 + c2 + c3)) % 115792089237316195423570985008687907853269984665640564039457584007913129639936
    rw [Int.add_mul_emod_self_left, Int.emod_eq_of_lt n0 n1]
  obtain ⟨g0, g1, g2, g3⟩ := lim_num _ _ (u 0) (u 1) (u 2) (u 3) key
  intro k hk
  match k, hk with
  | 0, _ => exact g0.symm
  | 1, _ => exact g1.symm
  | 2, _ => exact g2.symm
  | 3, _ => exact g3.symm
end Go.Proofs.YtbbpmcebakckaaaGreatDoor
