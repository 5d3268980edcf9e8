import Derived.Test.YtadfkiebblmfkaaGreatDoorS06
import Derived.Deep.OwnRows
import Derived.Laws.BytesArg
import Derived.Test.YtadfkiebblmfkaaGreatDoorS05
import Derived.Laws.MakeOwn
import Derived.Laws.AppendOwn
import Derived.OwnWalk
import Derived.WalkSmall
/- Bytes. For every word. -/
namespace Go.Proofs.YtadfkiebblmfkaaGreatDoor
open Go Go.RowKit Go.Shelf
attribute [local go_sem] Oper.semAt_some Grows wide_fn

/-- Digit t of a number to the base 256, the lowest one being digit 0. -/
def byteN (a t : Nat) : Nat := a / 256 ^ t % 256
theorem byteN_lt (a t : Nat) : byteN a t < 256 := Nat.mod_lt _ (by decide)
theorem byteN_lim (a k i : Nat) (hk : k < 4) (hi : i < 8) : (lim a k / 256 ^ i) % 256 = (byteN a (8 * k + i) : Int) := by
  unfold byteN
  have h : ∀ x : Nat, ((x % 18446744073709551616 : Nat) : Int) / 256 ^ i % 256 = ((x / 256 ^ i % 256 : Nat) : Int) := by
    intro x
    have : i = 0 ∨ i = 1 ∨ i = 2 ∨ i = 3 ∨ i = 4 ∨ i = 5 ∨ i = 6 ∨ i = 7 := by omega
    rcases this with rfl | rfl | rfl | rfl | rfl | rfl | rfl | rfl <;> simp only [Nat.reducePow, Int.reducePow] <;> omega
  match k, hk with
  | 0, _ =>
    show ((a % 18446744073709551616 : Nat) : Int) / 256 ^ i % 256 = _
    rw [h a, Nat.mul_zero, Nat.zero_add]
  | 1, _ =>
    show ((a / 18446744073709551616 % 18446744073709551616 : Nat) : Int) / 256 ^ i % 256 = _
    rw [h, show (18446744073709551616 : Nat) = 256 ^ (8 * 1) by decide, Nat.div_div_eq_div_mul, ← Nat.pow_add]
  | 2, _ =>
    show ((a / 340282366920938463463374607431768211456 % 18446744073709551616 : Nat) : Int) / 256 ^ i % 256 = _
    rw [h, show (340282366920938463463374607431768211456 : Nat) = 256 ^ (8 * 2) by decide, Nat.div_div_eq_div_mul, ← Nat.pow_add]
  | 3, _ =>
    show ((a / 6277101735386680763835789423207666416102355444464034512896 % 18446744073709551616 : Nat) : Int) / 256 ^ i % 256 = _
    rw [h, show (6277101735386680763835789423207666416102355444464034512896 : Nat) = 256 ^ (8 * 3) by decide, Nat.div_div_eq_div_mul, ← Nat.pow_add]

/-- What place j of the bytes holds when m of them have been told. -/
def outAt (a m j : Nat) : Value := if 32 - m ≤ j then .int .u8 (byteN a (31 - j) : Int) else .int .u8 0
theorem outAt_succ (a m : Nat) (hm : m < 32) : (fun j => if j = 31 - m then Value.int .u8 (byteN a m : Int) else outAt a m j) = fun j => if j < 32 then outAt a (m + 1) j else outAt a m j := by
  funext j
  unfold outAt
  by_cases h : j = 31 - m
  · subst h
    rw [if_pos rfl, if_pos (by omega), if_pos (by omega), show 31 - (31 - m) = m by omega]
  · rw [if_neg h]
    by_cases h2 : j < 32
    · rw [if_pos h2]
      by_cases h3 : 32 - m ≤ j
      · rw [if_pos h3, if_pos (by omega)]
      · rw [if_neg h3, if_neg (by omega)]
    · rw [if_neg h2]
/-- The bytes of a number, the highest one first. -/
def bytesOf (a : Nat) : ByteArray := strOfNums ((List.range 32).map fun j => (byteN a (31 - j) : Int))

def BytSt (w : World) (a m : Nat) (W : World) : Prop :=
  (W.rowIs (w.heap.size + 1) 141 32 (outAt a m) ∧ Boxed W (w.heap.size + 1 + 1) 3 (.int .i64 ((32 - m : Nat) : Int)) ∧ Arr4 W w.heap.size 28 (lim a) ∧ Boxed W (w.heap.size + 1 + 1 + 1) 160 (.pointer (some ⟨w.heap.size, 0, none⟩))) ∧ Below w.heap.size w W
theorem rowIs_own {β : Type} (B : Nat) (t : TypeId) (n : Nat) (f : β → Nat → Value) : Own (fun s W => World.rowIs W B t n (f s)) := fun s X Y row hs hg hrow =>
  hs.of_block (hg.block B hs.lt (fun e' => by
    obtain ⟨o, ho, hc⟩ := hrow B e'.symm
    obtain ⟨cs, h1, _⟩ := hs
    rw [h1] at ho
    cases ho
    cases hc))
theorem BytSt.own (w : World) (a B : Nat) (hB : w.heap.size ≤ B) : OwnFrom B (fun m W => BytSt w a m W) :=
  OwnFrom.and (Own.from (fun s X Y row hs hg hr => ⟨rowIs_own _ _ _ (fun m : Nat => outAt a m) s X Y row hs.1 hg hr, boxed_own _ _ (fun m : Nat => Value.int .i64 ((32 - m : Nat) : Int)) s X Y row hs.2.1 hg hr,
    Arr4.own _ _ (fun _ : Nat => _) s X Y row hs.2.2.1 hg hr, boxed_own _ _ (fun _ : Nat => _) s X Y row hs.2.2.2 hg hr⟩) _) (ownFrom_below (Nat.le_refl _) hB)

/-- What is left of a part when i of its bytes are told. -/
def partAt (a k : Nat) : Nat → Int
  | 0 => lim a k
  | i + 1 => partAt a k i / 256
theorem partAt_eq (a k : Nat) : ∀ i, partAt a k i = lim a k / 256 ^ i
  | 0 => by simp [partAt]
  | i + 1 => by
    show partAt a k i / 256 = _
    rw [partAt_eq a k i]
    obtain ⟨x, hx⟩ := Int.eq_ofNat_of_zero_le (lim_u64 a k).1
    rw [hx, Int.pow_succ]
    have h : ((x / 256 ^ i / 256 : Nat) : Int) = ((x / (256 ^ i * 256) : Nat) : Int) := by rw [Nat.div_div_eq_div_mul]
    simpa using h
theorem partAt_u64 (a k i : Nat) : U64 (partAt a k i) := by
  rw [partAt_eq]
  have h := lim_u64 a k
  unfold U64 at *
  exact ⟨Int.ediv_nonneg h.1 (Int.pow_nonneg (by decide)), Int.lt_of_le_of_lt (Int.ediv_le_self _ h.1) h.2⟩
theorem partAt_byte (a k i : Nat) (hk : k < 4) (hi : i < 8) : IntKind.u8.wrap (partAt a k i) = (byteN a (8 * k + i) : Int) := by
  have h := byteN_lim a k i hk hi
  rw [← partAt_eq] at h
  rw [← h]
  rfl

set_option maxRecDepth 100000 in
set_option maxHeartbeats 2000000 in
theorem bytes_ret (a : Nat) (_ha : W256 a) : Ret Tryz.prog 104 #[wv a] (.string (bytesOf a)) := by
  intro w
  unfold wv
  have h1 : 1 ≤ 4 := by omega
  refine (callsIn_wide (n := 4)).1 ?_
  refine callsIn_of_wp_marks Tryz.func104 rfl trivial ?_ rfl
  simp only [Tryz.ntmps104, List.size_toArray, List.length_cons, List.length_nil, Nat.reduceAdd, Nat.reduceSub, Array.replicate_succ, Array.replicate_zero, List.push_toArray, List.append_toArray, List.nil_append, List.cons_append]
  gi_wp2_with (gi_at_call 130; refine (callsIn_free free_wide (parts_any _ _)).mono ?_; rintro e w' ⟨rfl, rfl⟩)
  obtain ⟨W0, hW0⟩ : ∃ W0, ((((w.alloc (.cells #[.int .u64 (lim a 0), .int .u64 (lim a 1), .int .u64 (lim a 2), .int .u64 (lim a 3)] 28)).alloc (.cells #[.int .u8 0, .int .u8 0, .int .u8 0, .int .u8 0, .int .u8 0, .int .u8 0, .int .u8 0, .int .u8 0, .int .u8 0, .int .u8 0, .int .u8 0, .int .u8 0, .int .u8 0, .int .u8 0, .int .u8 0, .int .u8 0, .int .u8 0, .int .u8 0, .int .u8 0, .int .u8 0, .int .u8 0, .int .u8 0, .int .u8 0, .int .u8 0, .int .u8 0, .int .u8 0, .int .u8 0, .int .u8 0, .int .u8 0, .int .u8 0, .int .u8 0, .int .u8 0] 141)).alloc (.cells #[.int .i64 32] 3)).alloc (.cells #[.pointer (some ⟨w.heap.size, 0, none⟩)] 160)) = W0 := ⟨_, rfl⟩
  have hsz : W0.heap.size = w.heap.size + 4 := by rw [← hW0]; simp
  have hJ0 : BytSt w a 0 W0 := by
    rw [← hW0]
    refine ⟨⟨?_, ?_, ?_, ?_⟩, ((((Below.refl _ w).alloc (Nat.le_refl _) _).alloc (by simp) _).alloc (by simp; omega) _).alloc (by simp; omega) _⟩
    · have h := World.rowIs_alloc (w.alloc (.cells #[.int .u64 (lim a 0), .int .u64 (lim a 1), .int .u64 (lim a 2), .int .u64 (lim a 3)] 28)) #[.int .u8 0, .int .u8 0, .int .u8 0, .int .u8 0, .int .u8 0, .int .u8 0, .int .u8 0, .int .u8 0, .int .u8 0, .int .u8 0, .int .u8 0, .int .u8 0, .int .u8 0, .int .u8 0, .int .u8 0, .int .u8 0, .int .u8 0, .int .u8 0, .int .u8 0, .int .u8 0, .int .u8 0, .int .u8 0, .int .u8 0, .int .u8 0, .int .u8 0, .int .u8 0, .int .u8 0, .int .u8 0, .int .u8 0, .int .u8 0, .int .u8 0, .int .u8 0] 141 (outAt a 0) (fun i hi => by
        match i, hi with
        | 0, _ => rfl
        | 1, _ => rfl
        | 2, _ => rfl
        | 3, _ => rfl
        | 4, _ => rfl
        | 5, _ => rfl
        | 6, _ => rfl
        | 7, _ => rfl
        | 8, _ => rfl
        | 9, _ => rfl
        | 10, _ => rfl
        | 11, _ => rfl
        | 12, _ => rfl
        | 13, _ => rfl
        | 14, _ => rfl
        | 15, _ => rfl
        | 16, _ => rfl
        | 17, _ => rfl
        | 18, _ => rfl
        | 19, _ => rfl
        | 20, _ => rfl
        | 21, _ => rfl
        | 22, _ => rfl
        | 23, _ => rfl
        | 24, _ => rfl
        | 25, _ => rfl
        | 26, _ => rfl
        | 27, _ => rfl
        | 28, _ => rfl
        | 29, _ => rfl
        | 30, _ => rfl
        | 31, _ => rfl
        | n + 32, h => exact absurd h (by show ¬ (n + 32 < 32); omega))
      rw [World.size_alloc] at h
      exact (h.alloc _).alloc _
    · have h := Boxed.new ((w.alloc (.cells #[.int .u64 (lim a 0), .int .u64 (lim a 1), .int .u64 (lim a 2), .int .u64 (lim a 3)] 28)).alloc (.cells #[.int .u8 0, .int .u8 0, .int .u8 0, .int .u8 0, .int .u8 0, .int .u8 0, .int .u8 0, .int .u8 0, .int .u8 0, .int .u8 0, .int .u8 0, .int .u8 0, .int .u8 0, .int .u8 0, .int .u8 0, .int .u8 0, .int .u8 0, .int .u8 0, .int .u8 0, .int .u8 0, .int .u8 0, .int .u8 0, .int .u8 0, .int .u8 0, .int .u8 0, .int .u8 0, .int .u8 0, .int .u8 0, .int .u8 0, .int .u8 0, .int .u8 0, .int .u8 0] 141)) 3 (.int .i64 32)
      rw [World.size_alloc, World.size_alloc] at h
      exact h.alloc _
    · exact (((Arr4.word w _ a).alloc _).alloc _).alloc _
    · have h := Boxed.new (((w.alloc (.cells #[.int .u64 (lim a 0), .int .u64 (lim a 1), .int .u64 (lim a 2), .int .u64 (lim a 3)] 28)).alloc (.cells #[.int .u8 0, .int .u8 0, .int .u8 0, .int .u8 0, .int .u8 0, .int .u8 0, .int .u8 0, .int .u8 0, .int .u8 0, .int .u8 0, .int .u8 0, .int .u8 0, .int .u8 0, .int .u8 0, .int .u8 0, .int .u8 0, .int .u8 0, .int .u8 0, .int .u8 0, .int .u8 0, .int .u8 0, .int .u8 0, .int .u8 0, .int .u8 0, .int .u8 0, .int .u8 0, .int .u8 0, .int .u8 0, .int .u8 0, .int .u8 0, .int .u8 0, .int .u8 0] 141)).alloc (.cells #[.int .i64 32] 3)) 160 (.pointer (some ⟨w.heap.size, 0, none⟩))
      simpa using h
  rw [hW0]
  clear hW0
  refine wpIn_rangeFunc_N1 rfl h1 (gf := 154) (lb := #[.pointer (some ⟨w.heap.size + 1 + 1 + 1, 0, none⟩)]) rfl trivial (enters_of Tryz.func154 (by kernel_rfl) rfl)
    (parts_seq _ (by omega) _ _ (lim a) W0 (by omega) (by omega) hJ0.1.2.2.2.cell (fun j hj => hJ0.1.2.2.1.cell hj)) KeepsAt.trans (KeepsAt.refl _) (KeepsAt.b (by simp; omega)) (fun _ _ => rfl)
    (fun k W => BytSt w a (8 * k) W)
    (fun _ _ _ => False)
    (fun s => BytSt.own w a _ (by omega) (8 * s))
    (fun _ _ _ _ _ hs _ _ => hs)
    hJ0
    (fun k => { tmps := #[.agg #[.int .u64 (lim a 0), .int .u64 (lim a 1), .int .u64 (lim a 2), .int .u64 (lim a 3)], .pointer (some ⟨w.heap.size, 0, none⟩), .string { data := #[] }, .pointer (some ⟨w.heap.size + 1, 0, none⟩), .pointer (some ⟨w.heap.size + 1 + 1, 0, none⟩), undef, .int .u64 (lim a k), .func (.func 154) #[] #[.pointer (some ⟨w.heap.size + 1 + 1 + 1, 0, none⟩)], .int .i64 (k : Int), .int .u64 (lim a k), undef, undef, undef, undef, undef, undef, undef, undef, undef, undef, undef, undef, undef], defers := [] }) ?assign ?body ?done ?stop
  case assign =>
    intro l k W K _ hK
    gi_wp2
    exact hK
  case body =>
    rintro l k W _ hk4 hst
    gi_wp2
    gi_loopw [6, 10] (fun p i wr => ∃ m : Nat, m ≤ 8 ∧ i = .int .i64 m ∧ p = .int .u64 (partAt a k m) ∧ BytSt w a (8 * k + m) wr ∧ KeepsAt [w.heap.size, w.heap.size + 1 + 1 + 1] W wr ∧ KeepsFrom W0.heap.size W wr) (fun p i _ => 8 - (intOf i).toNat)
    case atStart => exact ⟨0, by omega, rfl, rfl, hst, KeepsAt.refl _ _, KeepsFrom.refl _ _⟩
    case round =>
      obtain ⟨m, hm, rfl, rfl, ⟨⟨b1, b2, b3, b4⟩, hB⟩, hKa, hKf⟩ := hrel
      have hl1 := b1.lt
      have hl4 := b4.lt
      by_cases hlt : m < 8
      · have hu := partAt_u64 a k m
        obtain ⟨hu0, hu1⟩ := hu
        have hby := Lib.hid (partAt_byte a k m hk4 hlt)
        have hps : Hid (partAt a k (m + 1) = partAt a k m / 256) := rfl
        obtain ⟨q, hq⟩ : ∃ q : Nat, q + (8 * k + m) = 31 := ⟨31 - (8 * k + m), by omega⟩
        have c2 := b2.cell
        have f2 := b2.frozen
        rw [show ((32 - (8 * k + m) : Nat) : Int) = (q : Int) + 1 by omega] at c2
        have c1 : wr.cell? ⟨w.heap.size + 1, q, none⟩ = some (outAt a (8 * k + m) q) := b1.cell (by omega)
        have f1 := b1.frozen q
        have hq0 : (0 : Int) ≤ (q : Int) := by omega
        have hq1 : (q : Int) < 32 := by omega
        have hm8 : (m : Int) < 8 := by omega
        have hst' : BytSt w a (8 * k + (m + 1)) ((wr.setCell ⟨w.heap.size + 1 + 1, 0, none⟩ (.int .i64 (q : Int))).setCell ⟨w.heap.size + 1, q, none⟩ (.int .u8 (IntKind.u8.wrap (partAt a k m)))) := by
          refine ⟨⟨?_, ?_, ?_, ?_⟩, (hB.setCell (p := ⟨w.heap.size + 1 + 1, 0, none⟩) (by simp; omega) _).setCell (p := ⟨w.heap.size + 1, q, none⟩) (by simp) _⟩
          · have h := (b1.setOther (a := ⟨w.heap.size + 1 + 1, 0, none⟩) (by simp) (.int .i64 (q : Int))).set q (.int .u8 (IntKind.u8.wrap (partAt a k m)))
            rw [hby.out, show q = 31 - (8 * k + m) by omega, outAt_succ a (8 * k + m) (by omega)] at h
            rw [hby.out, show q = 31 - (8 * k + m) by omega]
            exact h.congr (fun i hi => (if_pos hi).trans rfl)
          · have h := Boxed.away (Boxed.set (.int .i64 (q : Int)) b2) (p := ⟨w.heap.size + 1, q, none⟩) (by simp) (.int .u8 (IntKind.u8.wrap (partAt a k m)))
            rw [show ((32 - (8 * k + (m + 1)) : Nat) : Int) = (q : Int) by omega]
            exact h
          · exact Arr4.other (Arr4.other b3 (by simp; omega) _) (by simp) _
          · exact Boxed.away (Boxed.away b4 (by simp) _) (by simp; omega) _
        have HS := Lib.hid hst'
        have HB := Lib.hid hB
        clear hst' b1 b2 b3 b4 hst hB hJ0 hq
        gi_wp2
        go_roundw
        case rel => exact ⟨m + 1, by omega, by simp, by rw [hps.out], HS.out, (hKa.setCell (by first | (simp; done) | (simp; omega)) _).setCell (by first | (simp; done) | (simp; omega)) _, (hKf.trans ((KeepsOthers.setCell _ _ _).from _)).trans ((KeepsOthers.setCell _ _ _).from _)⟩
        case measure => simp [intOf]; omega
      · obtain rfl : m = 8 := by omega
        gi_wp2
        exact ⟨hKf, hKa, ⟨⟨b1, b2, b3, b4⟩, hB⟩⟩
  case done =>
    rintro D W hD ⟨⟨b1, b2, b3, b4⟩, hB⟩ hK
    have hcv := run_convert_bytes_arg (P := Tryz.prog) W 100 5 Tryz.underlying100 Tryz.underlying5 (w.heap.size + 1) 0 32 32 ((List.range 32).map fun j => (byteN a (31 - j) : Int)) (by simp) (fun i hi => by
      have h := b1.cell hi
      rw [Nat.zero_add, h]
      unfold outAt
      rw [if_pos (by omega)]
      simp [hi]) 9 Tryz.underlying9
    have HK := Lib.hid hK
    have HB := Lib.hid hB
    have e : strOfNums ((List.range 32).map fun j => (byteN a (31 - j) : Int)) = bytesOf a := rfl
    rw [e] at hcv
    clear e b1 b2 b3 b4 hK hB hJ0
    gi_wp2
    refine ⟨by simp, .inl ⟨_, _, rfl, run_takeDeferred HK.out, ?_⟩⟩
    exact ⟨_, results_tmp rfl _ _ _, rfl, HB.out.trans (belowK_b (w := w) (Nat.le_refl _) _ D _ _ (by omega) HK.out rfl rfl)⟩
  case stop =>
    rintro D c k W _ _ h _
    exact h.elim
end Go.Proofs.YtadfkiebblmfkaaGreatDoor

/- Digits and pieces of texts. For every text. -/
namespace Go.Proofs.YtadfkiebblmfkaaGreatDoor
open Go Go.RowKit Go.Shelf
attribute [local go_sem] Oper.semAt_some Grows wide_fn

/-- A kind of digits: its base, and which byte is which one. -/
structure Kind where
  base : Nat
  dig : UInt8 → Option Nat
  pos : 2 ≤ base
  top : base ≤ 256
  lt : ∀ c v, dig c = some v → v < base
def decD (c : UInt8) : Option Nat := if 48 ≤ c.toNat ∧ c.toNat ≤ 57 then some (c.toNat - 48) else none
def hexD (c : UInt8) : Option Nat := if 48 ≤ c.toNat ∧ c.toNat ≤ 57 then some (c.toNat - 48) else if 97 ≤ c.toNat ∧ c.toNat ≤ 102 then some (c.toNat - 97 + 10) else none
theorem decD_lt (c : UInt8) (v : Nat) (h : decD c = some v) : v < 10 := by
  unfold decD at h
  split at h
  · cases h; omega
  · cases h
theorem hexD_lt (c : UInt8) (v : Nat) (h : hexD c = some v) : v < 16 := by
  unfold hexD at h
  split at h
  · cases h; omega
  · split at h
    · cases h; omega
    · cases h
def octK : Kind := ⟨256, fun c => some c.toNat, by decide, by decide, fun c v h => by cases h; exact c.toNat_lt⟩
def decK : Kind := ⟨10, decD, by decide, by decide, decD_lt⟩
def hexK : Kind := ⟨16, hexD, by decide, by decide, hexD_lt⟩

/-- The number of digits, behind one that there was; none: one of them is no digit. -/
def numFrom (K : Kind) (n : Nat) : List UInt8 → Option Nat
  | [] => some n
  | c :: r => match K.dig c with | some v => numFrom K (n * K.base + v) r | none => none
theorem numFrom_append (K : Kind) : ∀ (a : List UInt8) (n : Nat) (b : List UInt8), numFrom K n (a ++ b) = (numFrom K n a).bind fun m => numFrom K m b
  | [], n, b => rfl
  | c :: r, n, b => by
    simp only [List.cons_append, numFrom]
    cases K.dig c with
    | none => rfl
    | some v => exact numFrom_append K r _ b
theorem numFrom_lt (K : Kind) : ∀ (l : List UInt8) (n m : Nat), numFrom K n l = some m → m < (n + 1) * K.base ^ l.length
  | [], n, m, h => by cases h; simp
  | c :: r, n, m, h => by
    simp only [numFrom] at h
    cases hd : K.dig c with
    | none => rw [hd] at h; cases h
    | some v =>
      rw [hd] at h
      have h1 := numFrom_lt K r _ m h
      have h2 := K.lt c v hd
      refine Nat.lt_of_lt_of_le h1 ?_
      rw [List.length_cons, Nat.pow_succ, Nat.mul_comm (K.base ^ r.length), ← Nat.mul_assoc]
      exact Nat.mul_le_mul_right _ (by rw [Nat.add_mul]; omega)
theorem numFrom_zero (K : Kind) : ∀ (l : List UInt8) (n : Nat), numFrom K n l = (numFrom K 0 l).map fun m => n * K.base ^ l.length + m
  | [], n => by simp [numFrom]
  | c :: r, n => by
    simp only [numFrom]
    cases hd : K.dig c with
    | none => rfl
    | some v =>
      simp only []
      rw [numFrom_zero K r (n * K.base + v), numFrom_zero K r (0 * K.base + v)]
      cases numFrom K 0 r with
      | none => rfl
      | some m =>
        simp only [Option.map_some, List.length_cons, Nat.pow_succ, Option.some.injEq]
        rw [Nat.add_mul, Nat.add_mul, Nat.mul_assoc, Nat.mul_comm K.base (K.base ^ r.length)]
        omega
/-- What a piece tells. -/
def smallV (K : Kind) (l : List UInt8) : Value := match numFrom K 0 l with
  | some n => .tuple #[.int .u64 (n : Int), .int .u64 ((K.base ^ l.length : Nat) : Int), .bool true]
  | none => .tuple #[.int .u64 0, .int .u64 0, .bool false]

/-- What one digit tells. -/
def digV : Option Nat → Value
  | some v => .tuple #[.int .u64 (v : Int), .bool true]
  | none => .tuple #[.int .u64 0, .bool false]
def SameRet (P : Program) (f : FuncId) (args : Array Value) (v : Value) : Prop := ∀ w, Calls P f args w fun e w' => e = .returned v ∧ w = w'

theorem octK_base : octK.base = 256 := rfl
theorem decK_base : decK.base = 10 := rfl
theorem hexK_base : hexK.base = 16 := rfl
theorem take_snocW (s : ByteArray) (k : Nat) (h : k < s.size) : s.data.toList.take (k + 1) = s.data.toList.take k ++ [s[k]] := by
  rw [List.take_succ_eq_append_getElem (by simpa using h)]; rfl
theorem numFrom_snoc (K : Kind) (l : List UInt8) (c : UInt8) : numFrom K 0 (l ++ [c]) = (numFrom K 0 l).bind fun n => (K.dig c).map fun v => n * K.base + v := by
  rw [numFrom_append]
  cases numFrom K 0 l with
  | none => rfl
  | some n => simp only [Option.bind_some, numFrom]; cases K.dig c <;> rfl
theorem numFrom_bad (K : Kind) (s : ByteArray) (k : Nat) (h : k < s.size) (hd : K.dig s[k] = none) : numFrom K 0 s.data.toList = none := by
  have e : s.data.toList = s.data.toList.take k ++ (s[k] :: s.data.toList.drop (k + 1)) := by
    have := List.take_append_drop k s.data.toList
    rw [List.drop_eq_getElem_cons (by simpa using h)] at this
    exact this.symm
  rw [e, numFrom_append]
  cases numFrom K 0 (s.data.toList.take k) with
  | none => rfl
  | some n => simp only [Option.bind_some, numFrom, hd]

end Go.Proofs.YtadfkiebblmfkaaGreatDoor

/- The iterator over a text's pieces. For every text that is not beyond the model's reach. -/
namespace Go.Proofs.YtadfkiebblmfkaaGreatDoor
open Go Go.RowKit Go.Shelf
attribute [local go_sem] Oper.semAt_some wide_fn

/-- Piece k of a text. -/
def piece (s : ByteArray) (k : Nat) : ByteArray := s.extract (7 * k) (min (7 * k + 7) s.size)

end Go.Proofs.YtadfkiebblmfkaaGreatDoor

/- scale: a word times a factor, and one more number. For every word and factor. -/
namespace Go.Proofs.YtadfkiebblmfkaaGreatDoor
open Go Go.RowKit Go.Shelf
attribute [local go_sem] Oper.semAt_some Grows wide_fn

def sc (z : Nat → Int) (f p : Int) : Nat → Int
  | 0 => p
  | k + 1 => tpHi (z k) f (sc z f p k) 0
def so (z : Nat → Int) (f p : Int) (k : Nat) : Int := tpLo (z k) f (sc z f p k) 0
theorem u64_zero : U64 0 := ⟨by omega, by omega⟩
theorem sc_u64 (z : Nat → Int) (f p : Int) (hz : ∀ k, U64 (z k)) (hf : U64 f) (hp : U64 p) : ∀ k, U64 (sc z f p k)
  | 0 => hp
  | k + 1 => (tp_bound _ _ _ _ (hz k) hf (sc_u64 z f p hz hf hp k) u64_zero).2
theorem so_u64 (z : Nat → Int) (f p : Int) (hz : ∀ k, U64 (z k)) (hf : U64 f) (hp : U64 p) (k : Nat) : U64 (so z f p k) := (tp_bound _ _ _ _ (hz k) hf (sc_u64 z f p hz hf hp k) u64_zero).1
def scAt (z : Nat → Int) (f p : Int) (k j : Nat) : Int := if j < k then so z f p j else 0
theorem scAt_succ (z : Nat → Int) (f p : Int) (k : Nat) : scAt z f p (k + 1) = fun j => if j = k then so z f p k else scAt z f p k j := by
  funext j; unfold scAt
  by_cases h : j = k
  · subst h; rw [if_pos (by omega), if_pos rfl]
  · rw [if_neg h]
    by_cases h2 : j < k
    · rw [if_pos (by omega), if_pos h2]
    · rw [if_neg (by omega), if_neg h2]
theorem scale_num (z : Nat → Int) (f p : Int) : num (scAt z f p 4) + 115792089237316195423570985008687907853269984665640564039457584007913129639936 * sc z f p 4 = num z * f + p := by
  rw [num_mul]
  have k0 : so z f p 0 + 18446744073709551616 * sc z f p 1 = z 0 * f + sc z f p 0 + 0 := tp_step ..
  have k1 : so z f p 1 + 18446744073709551616 * sc z f p 2 = z 1 * f + sc z f p 1 + 0 := tp_step ..
  have k2 : so z f p 2 + 18446744073709551616 * sc z f p 3 = z 2 * f + sc z f p 2 + 0 := tp_step ..
  have k3 : so z f p 3 + 18446744073709551616 * sc z f p 4 = z 3 * f + sc z f p 3 + 0 := tp_step ..
  have kz : sc z f p 0 = p := rfl
  rw [kz] at k0
  have r0 : scAt z f p 4 0 = so z f p 0 := rfl
  have r1 : scAt z f p 4 1 = so z f p 1 := rfl
  have r2 : scAt z f p 4 2 = so z f p 2 := rfl
  have r3 : scAt z f p 4 3 = so z f p 3 := rfl
  unfold num
  rw [r0, r1, r2, r3]
  clear r0 r1 r2 r3 kz
  generalize so z f p 0 = o0 at *
  generalize so z f p 1 = o1 at *
  generalize so z f p 2 = o2 at *
  generalize so z f p 3 = o3 at *
  generalize sc z f p 1 = c1 at *
  generalize sc z f p 2 = c2 at *
  generalize sc z f p 3 = c3 at *
  generalize sc z f p 4 = c4 at *
  generalize z 0 * f = p0 at *
  generalize z 1 * f = p1 at *
  generalize z 2 * f = p2 at *
  generalize z 3 * f = p3 at *
  omega
/-- A number times a factor, and one more. -/
theorem scale_parts (a f p : Nat) (ha : W256 a) (hf : f < 18446744073709551616) (hp : p < 18446744073709551616) : (∀ k, k < 4 → scAt (lim a) f p 4 k = lim (wmod (a * f + p)) k) ∧ sc (lim a) f p 4 = (((a * f + p) / 115792089237316195423570985008687907853269984665640564039457584007913129639936 : Nat) : Int) := by
  have uf : U64 (f : Int) := ⟨by omega, by omega⟩
  have up : U64 (p : Int) := ⟨by omega, by omega⟩
  have u : ∀ k, U64 (scAt (lim a) f p 4 k) := fun k => by
    unfold scAt; split
    · exact so_u64 _ _ _ (lim_u64 a) uf up k
    · exact u64_zero
  have h := scale_num (lim a) f p
  rw [num_lim a ha] at h
  have e : ((a * f + p : Nat) : Int) = a * f + p := by rw [Int.natCast_add, Int.natCast_mul]
  rw [← e] at h
  obtain ⟨n0, n1⟩ := num_lt _ (u 0) (u 1) (u 2) (u 3)
  have key : num (scAt (lim a) f p 4) = ((wmod (a * f + p) : Nat) : Int) := by
    unfold wmod
    rw [Int.natCast_emod, ← h]
    generalize num (scAt (lim a) f p 4) = t at *
    generalize sc (lim a) f p 4 = c at *
    show t = (t + 115792089237316195423570985008687907853269984665640564039457584007913129639936 * c) % 115792089237316195423570985008687907853269984665640564039457584007913129639936
    rw [Int.add_mul_emod_self_left, Int.emod_eq_of_lt n0 n1]
  have key2 : sc (lim a) f p 4 = (((a * f + p) / 115792089237316195423570985008687907853269984665640564039457584007913129639936 : Nat) : Int) := by
    rw [Int.natCast_ediv, ← h]
    generalize num (scAt (lim a) f p 4) = t at *
    generalize sc (lim a) f p 4 = c at *
    show c = (t + 115792089237316195423570985008687907853269984665640564039457584007913129639936 * c) / 115792089237316195423570985008687907853269984665640564039457584007913129639936
    rw [Int.add_mul_ediv_left _ _ (by decide), Int.ediv_eq_zero_of_lt n0 n1, Int.zero_add]
  obtain ⟨g0, g1, g2, g3⟩ := lim_num _ _ (u 0) (u 1) (u 2) (u 3) key
  refine ⟨fun k hk => ?_, key2⟩
  match k, hk with
  | 0, _ => exact g0.symm
  | 1, _ => exact g1.symm
  | 2, _ => exact g2.symm
  | 3, _ => exact g3.symm

def ScSt (w : World) (ba : Nat) (z : Nat → Int) (f p : Int) (k : Nat) (W : World) : Prop :=
  (Boxed W w.heap.size 26 (.int .u64 f) ∧ Boxed W (w.heap.size + 1) 26 (.int .u64 (sc z f p k)) ∧ Arr4 W (w.heap.size + 1 + 1) 28 (fun _ => 0) ∧ Arr4 W (w.heap.size + 1 + 1 + 1) 28 (scAt z f p k) ∧
    Boxed W (w.heap.size + 1 + 1 + 1 + 1) 160 (.pointer (some ⟨ba, 0, none⟩))) ∧ Below w.heap.size w W
theorem ScSt.own (w : World) (ba : Nat) (z : Nat → Int) (f p : Int) (B : Nat) (hB : w.heap.size ≤ B) : OwnFrom B (fun k W => ScSt w ba z f p k W) :=
  OwnFrom.and (Own.from (fun s X Y row hs hg hr => ⟨boxed_own _ _ (fun _ : Nat => _) s X Y row hs.1 hg hr, boxed_own _ _ (fun k : Nat => Value.int .u64 (sc z f p k)) s X Y row hs.2.1 hg hr, Arr4.own _ _ (fun _ : Nat => fun _ => 0) s X Y row hs.2.2.1 hg hr,
    Arr4.own _ _ (fun k : Nat => scAt z f p k) s X Y row hs.2.2.2.1 hg hr, boxed_own _ _ (fun _ : Nat => _) s X Y row hs.2.2.2.2 hg hr⟩) _) (ownFrom_below (Nat.le_refl _) hB)

end Go.Proofs.YtadfkiebblmfkaaGreatDoor

/- What a text of digits tells, piece by piece: plain lists. -/
namespace Go.Proofs.YtadfkiebblmfkaaGreatDoor
open Go Go.RowKit

theorem extract_list (s : ByteArray) (a b : Nat) : (s.extract a b).data.toList = (s.data.toList.drop a).take (b - a) := by
  rw [ByteArray.data_extract, Array.toList_extract, List.extract_eq_take_drop]
theorem piece_list (s : ByteArray) (k : Nat) : (piece s k).data.toList = (s.data.toList.drop (7 * k)).take 7 := by
  unfold piece
  rw [extract_list]
  have hl : (s.data.toList.drop (7 * k)).length = s.size - 7 * k := by simp
  by_cases h : 7 * k + 7 ≤ s.size
  · rw [Nat.min_eq_left h, show 7 * k + 7 - 7 * k = 7 by omega]
  · rw [Nat.min_eq_right (by omega), List.take_of_length_le (by rw [hl]; omega), List.take_of_length_le (by rw [hl]; omega)]
theorem piece_take (s : ByteArray) (k : Nat) : s.data.toList.take (7 * (k + 1)) = s.data.toList.take (7 * k) ++ (piece s k).data.toList := by
  rw [piece_list, show 7 * (k + 1) = 7 * k + 7 by omega, List.take_add]
theorem piece_size (s : ByteArray) (k : Nat) : (piece s k).size ≤ 7 := by
  have h : (piece s k).data.toList.length ≤ 7 := by rw [piece_list]; exact List.length_take_le _ _
  simpa using h

/-- What number tells. -/
def numV (K : Kind) (l : List UInt8) : Value := match numFrom K 0 l with
  | some n => if n < 115792089237316195423570985008687907853269984665640564039457584007913129639936 then .tuple #[.agg #[.int .u64 (lim n 0), .int .u64 (lim n 1), .int .u64 (lim n 2), .int .u64 (lim n 3)], .bool true] else .tuple #[.agg #[.int .u64 0, .int .u64 0, .int .u64 0, .int .u64 0], .bool false]
  | none => .tuple #[.agg #[.int .u64 0, .int .u64 0, .int .u64 0, .int .u64 0], .bool false]
theorem numV_bad (K : Kind) (l : List UInt8) (t : Nat) (h : numFrom K 0 (l.take t) = none) : numV K l = .tuple #[.agg #[.int .u64 0, .int .u64 0, .int .u64 0, .int .u64 0], .bool false] := by
  have e : numFrom K 0 l = none := by
    rw [← List.take_append_drop t l, numFrom_append, h]; rfl
  unfold numV; rw [e]
theorem numV_great (K : Kind) (l : List UInt8) (t m : Nat) (h : numFrom K 0 (l.take t) = some m) (hm : ¬ m < 115792089237316195423570985008687907853269984665640564039457584007913129639936) : numV K l = .tuple #[.agg #[.int .u64 0, .int .u64 0, .int .u64 0, .int .u64 0], .bool false] := by
  have e : numFrom K 0 l = (numFrom K 0 (l.drop t)).map fun x => m * K.base ^ (l.drop t).length + x := by
    conv => lhs; rw [← List.take_append_drop t l]
    rw [numFrom_append, h]
    exact numFrom_zero K _ m
  unfold numV
  cases hd : numFrom K 0 (l.drop t) with
  | none => rw [e, hd]; rfl
  | some x =>
    rw [e, hd]
    simp only [Option.map_some]
    rw [if_neg]
    have h1 : 1 ≤ K.base ^ (l.drop t).length := Nat.one_le_pow _ _ (by have := K.pos; omega)
    have h2 : m * 1 ≤ m * K.base ^ (l.drop t).length := Nat.mul_le_mul_left _ h1
    omega
theorem numV_good (K : Kind) (l : List UInt8) (m : Nat) (h : numFrom K 0 l = some m) (hm : W256 m) : numV K l = .tuple #[.agg #[.int .u64 (lim m 0), .int .u64 (lim m 1), .int .u64 (lim m 2), .int .u64 (lim m 3)], .bool true] := by
  unfold numV; rw [h]; exact if_pos hm
theorem numFrom_piece (K : Kind) (s : ByteArray) (k m n : Nat) (h : numFrom K 0 (s.data.toList.take (7 * k)) = some m) (hn : numFrom K 0 (piece s k).data.toList = some n) :
    numFrom K 0 (s.data.toList.take (7 * (k + 1))) = some (m * K.base ^ (piece s k).data.toList.length + n) := by
  rw [piece_take, numFrom_append, h]
  show numFrom K m _ = _
  rw [numFrom_zero, hn]; rfl
theorem numFrom_piece_none (K : Kind) (s : ByteArray) (k m : Nat) (h : numFrom K 0 (s.data.toList.take (7 * k)) = some m) (hn : numFrom K 0 (piece s k).data.toList = none) :
    numFrom K 0 (s.data.toList.take (7 * (k + 1))) = none := by
  rw [piece_take, numFrom_append, h]
  show numFrom K m _ = _
  rw [numFrom_zero, hn]; rfl
theorem unit_lt (K : Kind) (s : ByteArray) (k : Nat) : K.base ^ (piece s k).data.toList.length < 18446744073709551616 := by
  have h1 : (piece s k).data.toList.length ≤ 7 := by have := piece_size s k; simpa using this
  have h2 : K.base ^ (piece s k).data.toList.length ≤ 256 ^ (piece s k).data.toList.length := Nat.pow_le_pow_left K.top _
  have h3 : 256 ^ (piece s k).data.toList.length ≤ 256 ^ 7 := Nat.pow_le_pow_right (by decide) h1
  have h4 : (256 : Nat) ^ 7 < 18446744073709551616 := by decide
  omega
theorem small_lt (K : Kind) (s : ByteArray) (k n : Nat) (hn : numFrom K 0 (piece s k).data.toList = some n) : n < 18446744073709551616 := by
  have h := numFrom_lt K _ _ _ hn
  have := unit_lt K s k
  omega
end Go.Proofs.YtadfkiebblmfkaaGreatDoor

/- number: the word of a text of digits. For every text that is not beyond the model's reach. -/
namespace Go.Proofs.YtadfkiebblmfkaaGreatDoor
open Go Go.RowKit Go.Shelf
attribute [local go_sem] Oper.semAt_some Grows wide_fn

def NumSt (w : World) (K : Kind) (s : ByteArray) (k : Nat) (W : World) : Prop :=
  ∃ m, numFrom K 0 (s.data.toList.take (7 * k)) = some m ∧ W256 m ∧ (Arr4 W w.heap.size 28 (fun _ => 0) ∧ Boxed W (w.heap.size + 1) 4 (.bool false) ∧ Arr4 W (w.heap.size + 1 + 1) 28 (lim m) ∧ Boxed W (w.heap.size + 1 + 1 + 1) 9 (.string s)) ∧ Below w.heap.size w W
theorem NumSt.own (w : World) (K : Kind) (s : ByteArray) (B : Nat) (hB : w.heap.size ≤ B) : OwnFrom B (fun k W => NumSt w K s k W) := by
  rintro k X Y row ⟨m, h1, h2, ⟨b0, b1, b2, b3⟩, h4⟩ hg hr
  have hr' : ∀ r, row = some r → ∃ o : Obj, X.heap[r]? = some o ∧ o.isCells = false := fun r e => (hr r e).2
  exact ⟨m, h1, h2, ⟨Arr4.own _ _ (fun _ : Unit => fun _ => 0) () X Y row b0 hg hr', boxed_own _ _ (fun _ : Unit => _) () X Y row b1 hg hr', Arr4.own _ _ (fun _ : Unit => _) () X Y row b2 hg hr', boxed_own _ _ (fun _ : Unit => _) () X Y row b3 hg hr'⟩,
    ownFrom_below (β := Unit) (Nat.le_refl _) hB () X Y row h4 hg hr⟩
/-- A round that says that it is no number. -/
def NumBad (w : World) (W : World) : Prop := Arr4 W w.heap.size 28 (fun _ => 0) ∧ Boxed W (w.heap.size + 1) 4 (.bool false) ∧ Below w.heap.size w W
theorem NumBad.own (w : World) (B : Nat) (hB : w.heap.size ≤ B) : OwnFrom B (fun (_ : Nat) W => NumBad w W) := by
  rintro k X Y row ⟨b0, b1, h4⟩ hg hr
  have hr' : ∀ r, row = some r → ∃ o : Obj, X.heap[r]? = some o ∧ o.isCells = false := fun r e => (hr r e).2
  exact ⟨Arr4.own _ _ (fun _ : Unit => fun _ => 0) () X Y row b0 hg hr', boxed_own _ _ (fun _ : Unit => _) () X Y row b1 hg hr', ownFrom_below (β := Unit) (Nat.le_refl _) hB () X Y row h4 hg hr⟩
theorem Arr4.store0 {W : World} {B : Nat} {t : TypeId} (h : Arr4 W B t (fun _ => 0)) :
    Arr4 ((((W.setCell ⟨B, 0, none⟩ (.int .u64 0)).setCell ⟨B, 1, none⟩ (.int .u64 0)).setCell ⟨B, 2, none⟩ (.int .u64 0)).setCell ⟨B, 3, none⟩ (.int .u64 0)) B t (fun _ => 0) := h.store (fun _ => 0)
theorem Boxed.refix {W : World} {B : Nat} {t : TypeId} {v : Value} (h : Boxed W B t v) : Boxed (W.setCell ⟨B, 0, none⟩ v) B t v := h.set v

end Go.Proofs.YtadfkiebblmfkaaGreatDoor

/- FromBytes; Parse. For every text that is not beyond the model's reach. -/
namespace Go.Proofs.YtadfkiebblmfkaaGreatDoor
open Go Go.RowKit Go.Shelf
attribute [local go_sem] Oper.semAt_some Grows wide_fn

/-- The number of a list of bytes, the highest one first. -/
def octVal : Nat → List UInt8 → Nat
  | n, [] => n
  | n, c :: r => octVal (n * 256 + c.toNat) r
theorem numFrom_oct : ∀ (l : List UInt8) (n : Nat), numFrom octK n l = some (octVal n l)
  | [], _ => rfl
  | c :: r, n => numFrom_oct r (n * 256 + c.toNat)
theorem octVal_lt (l : List UInt8) : octVal 0 l < 256 ^ l.length := by
  have h := numFrom_lt octK l 0 _ (numFrom_oct l 0)
  rw [octK_base] at h
  omega
/-- The word of a text's bytes. -/
def fromB (l : List UInt8) : Nat := octVal 0 (l.drop (l.length - 32))
theorem fromB_lt (l : List UInt8) : W256 (fromB l) := by
  unfold fromB
  have h := octVal_lt (l.drop (l.length - 32))
  have h1 : (l.drop (l.length - 32)).length ≤ 32 := by rw [List.length_drop]; omega
  have h2 : 256 ^ (l.drop (l.length - 32)).length ≤ 256 ^ 32 := Nat.pow_le_pow_right (by decide) h1
  have h3 : (256 : Nat) ^ 32 = 115792089237316195423570985008687907853269984665640564039457584007913129639936 := by decide
  unfold W256
  omega
theorem numV_oct (l : List UInt8) : numV octK (l.drop (l.length - 32)) = .tuple #[wv (fromB l), .bool true] :=
  numV_good octK _ (fromB l) (numFrom_oct _ 0) (fromB_lt l)

/-! ### Parse -/
/-- What CutPrefix tells of '0x'. -/
def isHex (l : List UInt8) : Bool := match l with | 48 :: 120 :: _ => true | _ => false
def restOf (l : List UInt8) : List UInt8 := if isHex l then l.drop 2 else l
def hexPre : ByteArray := ⟨#[48, 120]⟩
theorem isHex_iff (s : ByteArray) : isHex s.data.toList = true ↔ (2 ≤ s.size ∧ s.extract 0 2 = hexPre) := by
  have hl : s.data.toList.length = s.size := by simp
  constructor
  · intro h
    unfold isHex at h
    split at h
    · rename_i r e
      have h2 : 2 ≤ s.size := by rw [← hl, e]; simp
      refine ⟨h2, ?_⟩
      have : (s.extract 0 2).data.toList = hexPre.data.toList := by rw [extract_list, e]; rfl
      exact ByteArray.ext (Array.toList_inj.1 this)
    · cases h
  · rintro ⟨h2, he⟩
    have : (s.extract 0 2).data.toList = [48, 120] := by rw [he]; rfl
    rw [extract_list] at this
    match hs : s.data.toList with
    | [] => rw [hs] at hl; simp at hl; omega
    | [_] => rw [hs] at hl; simp at hl; omega
    | a :: b :: r =>
      rw [hs] at this
      simp at this
      obtain ⟨rfl, rfl⟩ := this
      rfl
def errV : Value := .tuple #[.agg #[.int .u64 0, .int .u64 0, .int .u64 0, .int .u64 0], .int .i64 3]
/-- The word of a number's text, if it is one. -/
def wordIf (o : Option Nat) : Value := match o with
  | some n => if n < 115792089237316195423570985008687907853269984665640564039457584007913129639936 then .tuple #[.agg #[.int .u64 (lim n 0), .int .u64 (lim n 1), .int .u64 (lim n 2), .int .u64 (lim n 3)], .int .i64 0] else errV
  | none => errV
def badDigits (d : List UInt8) : Prop := d = [] ∨ (d.head? = some 48 ∧ d ≠ [48])
instance (d : List UInt8) : Decidable (badDigits d) := by unfold badDigits; infer_instance
def parseV (l : List UInt8) : Value := if badDigits (restOf l) then errV else wordIf (numFrom (if isHex l then hexK else decK) 0 (restOf l))

/-- What stands behind CutPrefix. -/
def tailV (K : Kind) (d : List UInt8) : Value := if badDigits d then errV else wordIf (numFrom K 0 d)

theorem numV_cases (K : Kind) (d : List UInt8) : (∃ n, wordIf (numFrom K 0 d) = .tuple #[.agg #[.int .u64 (lim n 0), .int .u64 (lim n 1), .int .u64 (lim n 2), .int .u64 (lim n 3)], .int .i64 0] ∧ numV K d = .tuple #[.agg #[.int .u64 (lim n 0), .int .u64 (lim n 1), .int .u64 (lim n 2), .int .u64 (lim n 3)], .bool true]) ∨
    (wordIf (numFrom K 0 d) = errV ∧ numV K d = .tuple #[.agg #[.int .u64 0, .int .u64 0, .int .u64 0, .int .u64 0], .bool false]) := by
  unfold wordIf numV
  cases numFrom K 0 d with
  | none => exact .inr ⟨rfl, rfl⟩
  | some n =>
    simp only []
    by_cases h : n < 115792089237316195423570985008687907853269984665640564039457584007913129639936
    · exact .inl ⟨n, if_pos h, if_pos h⟩
    · exact .inr ⟨if_neg h, if_neg h⟩

theorem results_wordE {fn : Func} {t u : Tmp} {tmps : Array Value} {W : World} {B : Nat} {m : Nat → Int} (h : fn.results = #[ResultVar.cell t 28, ResultVar.tmp u]) (ht : tmps.getD t undef = .pointer (some ⟨B, 0, none⟩)) (hA : Arr4 W B 28 m) :
    (results fn tmps).run Tryz.prog W = .ok (.tuple #[.agg #[.int .u64 (m 0), .int .u64 (m 1), .int .u64 (m 2), .int .u64 (m 3)], tmps.getD u undef]) W := by
  have e0 := hA.cell (j := 0) (by omega)
  have e1 := hA.cell (j := 1) (by omega)
  have e2 := hA.cell (j := 2) (by omega)
  have e3 := hA.cell (j := 3) (by omega)
  simp at ht
  simp [results, h, ht, go_sem, e0, e1, e2, e3]

end Go.Proofs.YtadfkiebblmfkaaGreatDoor

/- TrimLeft at 0; the first of two texts that is not empty. For every text. -/
namespace Go.Proofs.YtadfkiebblmfkaaGreatDoor
open Go Go.RowKit Go.Shelf
attribute [local go_sem] Oper.semAt_some Grows wide_fn

/-- Without the noughts ahead. -/
def noNoughts : List UInt8 → List UInt8
  | [] => []
  | c :: r => if c = 48 then noNoughts r else c :: r

set_option maxRecDepth 100000 in
set_option maxHeartbeats 1000000 in
theorem trimByte (s : ByteArray) (hs : s.size ≤ 140737488355328) (w : World) : Calls Tryz.prog 126 #[.string s, .int .u8 48] w fun e w' => (∃ t : ByteArray, e = .returned (.string t) ∧ t.data.toList = noNoughts s.data.toList) ∧ w = w' := by
  go_enter Tryz.func126, Tryz.ntmps126
  go_wp2
  go_loop [0] (fun x => ∃ t : ByteArray, x = .string t ∧ t.size ≤ 140737488355328 ∧ noNoughts t.data.toList = noNoughts s.data.toList) (fun x => match x with | .string t => t.size | _ => 0)
  case atStart => exact ⟨s, rfl, hs, rfl⟩
  case round =>
    obtain ⟨t, rfl, hts, hn⟩ := hrel
    have hl : t.data.toList.length = t.size := by simp
    by_cases h0 : t.size = 0
    · have z0 : ¬ (0 : Int) < (t.size : Int) := by omega
      have HN : Hid (t.data.toList = noNoughts s.data.toList) := by
        rw [← hn]
        have : t.data.toList = [] := List.eq_nil_of_length_eq_zero (by rw [hl]; exact h0)
        rw [this]; rfl
      clear hn hl h0
      go_wp2
      go_ret
      exact ⟨⟨t, rfl, HN.out⟩, rfl⟩
    · obtain ⟨c, r, hcr⟩ : ∃ c r, t.data.toList = c :: r := by
        cases hx : t.data.toList with
        | nil => rw [hx] at hl; simp at hl; omega
        | cons c r => exact ⟨c, r, rfl⟩
      have hlt : 0 < t.size := by omega
      have hc0 : t[0] = c := by
        have : t.data.toList[0]? = some c := by rw [hcr]; rfl
        have h2 : t.data.toList[0]? = some t[0] := by rw [List.getElem?_eq_getElem (by rw [hl]; exact hlt)]; rfl
        exact Option.some.inj (h2.symm.trans this)
      have hltI : (0 : Int) < (t.size : Int) := by omega
      have z1 : (1 : Int) ≤ (t.size : Int) := by omega
      by_cases hc : c = 48
      · subst hc
        have e4 : ((t[0].toNat : Int) == 48) = true := by rw [hc0]; rfl
        have HN : Hid (noNoughts (t.extract 1 t.size).data.toList = noNoughts s.data.toList) := by
          rw [← hn, extract_list, List.take_of_length_le (by rw [List.length_drop, hl]; omega), hcr]
          rfl
        have HS : Hid ((t.extract 1 t.size).size ≤ 140737488355328 ∧ (t.extract 1 t.size).size < t.size) := by
          rw [ByteArray.size_extract]; exact ⟨by omega, by omega⟩
        clear hn hl h0 hcr hc0
        go_wp2
        go_round
        case rel => exact ⟨_, rfl, HS.out.1, HN.out⟩
        case measure => exact HS.out.2
      · have e4 : ((t[0].toNat : Int) == 48) = false := by
          rw [hc0, beq_eq_false_iff_ne]
          intro e
          have : c.toNat = 48 := by omega
          exact hc (UInt8.toNat_inj.1 (by rw [this]; rfl))
        have HN : Hid (t.data.toList = noNoughts s.data.toList) := by
          rw [← hn, hcr]
          exact (if_neg hc).symm
        clear hn hl h0 hcr hc0
        go_wp2
        go_ret
        exact ⟨⟨t, rfl, HN.out⟩, rfl⟩

set_option maxRecDepth 100000 in
set_option maxHeartbeats 1000000 in
theorem trim_any (s : ByteArray) (hs : s.size ≤ 140737488355328) (w : World) : Calls Tryz.prog 103 #[.string s, .string ⟨#[48]⟩] w fun e w' => (∃ t : ByteArray, e = .returned (.string t) ∧ t.data.toList = noNoughts s.data.toList) ∧ w = w' := by
  have HT := Lib.hid (trimByte s hs)
  by_cases h0 : s.toList = []
  · have e2 : s.toList.isEmpty = true := by rw [h0]; rfl
    have HN : Hid (s.data.toList = noNoughts s.data.toList) := by
      rw [ByteArray.toList_eq] at h0
      rw [h0]; rfl
    have HO := Lib.hid h0
    clear h0
    go_enter Tryz.func103, Tryz.ntmps103
    go_wp2
    go_ret
    exact ⟨⟨s, rfl, HN.out⟩, rfl⟩
  · have e2 : s.toList.isEmpty = false := by
      cases h : s.toList with
      | nil => exact absurd h h0
      | cons _ _ => rfl
    go_enter Tryz.func103, Tryz.ntmps103
    go_wp2_with (go_at_call 126; refine (HT.out _).mono ?_; rintro e w' ⟨⟨t, rfl, ht⟩, rfl⟩; replace ht := Lib.hid ht)
    go_ret
    exact ⟨⟨_, rfl, Hid.out (by assumption)⟩, rfl⟩


end Go.Proofs.YtadfkiebblmfkaaGreatDoor

/- Hex. For every word. -/
namespace Go.Proofs.YtadfkiebblmfkaaGreatDoor
open Go Go.RowKit Go.Shelf
attribute [local go_sem] Oper.semAt_some Grows wide_fn

/-- A digit's letter. -/
def letter (v : Nat) : Nat := if v < 10 then 48 + v else 87 + v
def lets : ByteArray := ⟨#[48, 49, 50, 51, 52, 53, 54, 55, 56, 57, 97, 98, 99, 100, 101, 102]⟩
theorem lets_at : ∀ v : Fin 16, ((⟨#[48, 49, 50, 51, 52, 53, 54, 55, 56, 57, 97, 98, 99, 100, 101, 102]⟩ : ByteArray)[v.val]'(v.isLt)).toNat = letter v.val := by decide
theorem and15 (b : Nat) (hb : b < 256) : bits .and .u8 (b : Int) 15 = ((b % 16 : Nat) : Int) := by
  have h : ∀ n : Fin 256, bits .and .u8 (n.val : Int) 15 = ((n.val % 16 : Nat) : Int) := by decide +kernel
  exact h ⟨b, hb⟩
/-- The letters of a list of numbers below 256. -/
def hexL : List Nat → List Int
  | [] => []
  | b :: r => (letter (b / 16) : Int) :: (letter (b % 16) : Int) :: hexL r
theorem hexL_append : ∀ (a b : List Nat), hexL (a ++ b) = hexL a ++ hexL b
  | [], b => rfl
  | x :: r, b => by simp [hexL, hexL_append r b]
theorem hexL_length : ∀ l : List Nat, (hexL l).length = 2 * l.length
  | [] => rfl
  | x :: r => by simp [hexL, hexL_length r]; omega
theorem noNoughts_length : ∀ l : List UInt8, (noNoughts l).length ≤ l.length
  | [] => by simp [noNoughts]
  | c :: r => by
    unfold noNoughts
    split
    · have := noNoughts_length r; simp; omega
    · simp
theorem letter_range (v : Nat) (h : v < 16) : 48 ≤ letter v ∧ letter v < 103 := by unfold letter; split <;> omega
theorem hexL_range : ∀ (l : List Nat), (∀ b ∈ l, b < 256) → ∀ x ∈ hexL l, 0 ≤ x ∧ x < 256
  | [], _, x, hx => by cases hx
  | b :: r, h, x, hx => by
    have hb := h b (by simp)
    have h1 := letter_range (b / 16) (by omega)
    have h2 := letter_range (b % 16) (by omega)
    simp only [hexL, List.mem_cons] at hx
    rcases hx with rfl | rfl | hx
    · omega
    · omega
    · exact hexL_range r (fun y hy => h y (by simp [hy])) x hx
def zer64 : Array Value := madeCells #[.int .u8 0] 64
theorem infoB : (Tryz.prog.info? 5).map (fun i => (i.zero, i.size, i.bytes)) = some (some (.int .u8 0), 1, 1) := by kernel_rfl
theorem run_mk64 (W : World) : (Instr.makeSlice 100 (.int .i64 0) (.int .i64 64)).run Tryz.prog W = .ok (.slice (some ⟨W.heap.size, 0, none⟩) 0 64) (W.alloc (.cells zer64 5)) := by
  obtain ⟨i0, hi, hz0, hz1, hz2⟩ := info_parts infoB
  have h := run_make (P := Tryz.prog) W 100 5 i0 (.int .u8 0) Tryz.underlying100 hi hz0 .i64 .i64 0 64 (by decide) (by decide) (by rw [hz2]; decide) (by decide)
  rw [hz1] at h
  exact h
theorem owns_below {w w' : World} {base : Nat} {e : TypeId} {size : Nat} {v : Value} {n : Nat} {xs : List Value} (h : w.ownsRow base e size v n xs) (hb : Below w.heap.size w w') : w'.ownsRow base e size v n xs :=
  h.kept (grown_of_below hb none) (by cases hv : v.ownBlock <;> simp)
theorem row_ne {w : World} {base : Nat} {e : TypeId} {size : Nat} {v : Value} {n : Nat} {xs : List Value} (h : w.ownsRow base e size v n xs) {b : Nat} {C : Array Value} {t : TypeId} {p q : Nat} (hb : w.heap[b]? = some (.cells C t (p, q + 1))) : some b ≠ v.ownBlock := by
  rcases h.2 with ⟨rfl, _⟩ | ⟨g, cap, cur, rfl, _, hg, _⟩
  · simp [Value.ownBlock]
  · intro e
    simp [Value.ownBlock] at e
    subst e
    rw [hb] at hg
    cases hg
/-- The bytes of a number, as numbers, the highest one first. -/
def byteL (a : Nat) : List Nat := (List.range 32).map fun j => byteN a (31 - j)
theorem byteL_lt' (a : Nat) : ∀ b ∈ byteL a, b < 256 := by
  intro b hb
  obtain ⟨j, _, rfl⟩ := List.mem_map.1 hb
  exact byteN_lt _ _
theorem byteL_length (a : Nat) : (byteL a).length = 32 := by simp [byteL]
theorem bytesOf_list (a : Nat) : (bytesOf a).data.toList = (byteL a).map UInt8.ofNat := by
  unfold bytesOf strOfNums byteL
  simp [Function.comp_def]
theorem bytesOf_size (a : Nat) : (bytesOf a).size = 32 := by
  have : (bytesOf a).data.toList.length = 32 := by rw [bytesOf_list]; simp [byteL]
  simpa using this
def hexText (a : Nat) : List UInt8 := (hexL (byteL a)).map fun n => UInt8.ofNat n.toNat
def hexStr (a : Nat) : List UInt8 := [48, 120] ++ (if noNoughts (hexText a) = [] then [48] else noNoughts (hexText a))

end Go.Proofs.YtadfkiebblmfkaaGreatDoor

/- What the laws of words say of numbers: plain arithmetic and lists. -/
namespace Go.Proofs.YtadfkiebblmfkaaGreatDoor
open Go Go.RowKit

/-! ### Bytes and letters of a number -/
theorem byte_step (a t : Nat) : a / 256 ^ (t + 1) * 256 + byteN a t = a / 256 ^ t := by
  unfold byteN
  rw [Nat.pow_succ, ← Nat.div_div_eq_div_mul]
  omega
theorem byteL_take (a : Nat) : ∀ k, k ≤ 32 → octVal 0 (((List.range k).map fun j => byteN a (31 - j)).map UInt8.ofNat) = a / 256 ^ (32 - k) % 256 ^ k
  | 0, _ => by simp [octVal, Nat.mod_one]
  | k + 1, hk => by
    rw [List.range_succ, List.map_append, List.map_append]
    have h : ∀ (l : List UInt8) (n : Nat) (c : UInt8), octVal n (l ++ [c]) = octVal n l * 256 + c.toNat := by
      intro l
      induction l with
      | nil => intro n c; rfl
      | cons x r ih => intro n c; exact ih _ c
    simp only [List.map_cons, List.map_nil]
    rw [h, byteL_take a k (by omega), UInt8.toNat_ofNat', Nat.mod_eq_of_lt (show byteN a (31 - k) < 2 ^ 8 from byteN_lt a _)]
    have e1 : 32 - k = (31 - k) + 1 := by omega
    have e2 : 32 - (k + 1) = 31 - k := by omega
    have hs := byte_step a (31 - k)
    rw [e1, e2]
    rw [← hs]
    clear hs h e1 e2
    generalize a / 256 ^ (31 - k + 1) = q
    have hb := byteN_lt a (31 - k)
    generalize byteN a (31 - k) = b at *
    rw [Nat.pow_succ, Nat.mul_comm (256 ^ k) 256, Nat.mod_mul]
    have e3 : (q * 256 + b) % 256 = b := by omega
    have e4 : (q * 256 + b) / 256 = q := by omega
    rw [e3, e4]
    exact (Nat.add_comm _ _).trans (congrArg (b + ·) (Nat.mul_comm _ _)) |>.symm ▸ rfl
theorem octVal_bytes (a : Nat) (ha : W256 a) : octVal 0 ((byteL a).map UInt8.ofNat) = a := by
  have h := byteL_take a 32 (Nat.le_refl _)
  have e : (256 : Nat) ^ 32 = 115792089237316195423570985008687907853269984665640564039457584007913129639936 := by decide
  rw [e, Nat.sub_self, Nat.pow_zero, Nat.div_one, Nat.mod_eq_of_lt ha] at h
  exact h
theorem fromB_bytes (a : Nat) (ha : W256 a) : fromB (bytesOf a).data.toList = a := by
  unfold fromB
  rw [bytesOf_list]
  simp only [List.length_map, byteL_length, Nat.sub_self, List.drop_zero]
  exact octVal_bytes a ha
theorem fromB_behind (p : List UInt8) (a : Nat) (ha : W256 a) : fromB (p ++ (bytesOf a).data.toList) = a := by
  unfold fromB
  rw [bytesOf_list]
  have : (p ++ (byteL a).map UInt8.ofNat).length - 32 = p.length := by simp [byteL_length]
  rw [this, List.drop_left]
  exact octVal_bytes a ha

theorem hexD_letter : ∀ v : Fin 16, hexD (UInt8.ofNat (letter v.val)) = some v.val := by decide
theorem numFrom_hexL : ∀ (l : List Nat) (n : Nat), (∀ b ∈ l, b < 256) → numFrom hexK n ((hexL l).map fun x => UInt8.ofNat x.toNat) = some (octVal n (l.map UInt8.ofNat))
  | [], _, _ => rfl
  | b :: r, n, h => by
    have hb := h b (by simp)
    have h1 := hexD_letter ⟨b / 16, by omega⟩
    have h2 := hexD_letter ⟨b % 16, by omega⟩
    simp only [hexL, List.map_cons, numFrom, Int.toNat_natCast]
    show (match hexD (UInt8.ofNat (letter (b / 16))) with | some v => _ | none => none) = _
    rw [h1]
    simp only []
    show (match hexD (UInt8.ofNat (letter (b % 16))) with | some v => _ | none => none) = _
    rw [h2]
    simp only []
    rw [numFrom_hexL r _ (fun x hx => h x (by simp [hx]))]
    simp only [octVal]
    rw [UInt8.toNat_ofNat', Nat.mod_eq_of_lt (show b < 2 ^ 8 from hb)]
    show some (octVal ((n * 16 + b / 16) * 16 + b % 16) _) = _
    rw [show (n * 16 + b / 16) * 16 + b % 16 = n * 256 + b by omega]
theorem byteL_lt (a : Nat) : ∀ b ∈ byteL a, b < 256 := by
  intro b hb
  obtain ⟨j, _, rfl⟩ := List.mem_map.1 hb
  exact byteN_lt _ _
theorem numFrom_hexText (a : Nat) (ha : W256 a) : numFrom hexK 0 (hexText a) = some a := by
  unfold hexText
  rw [numFrom_hexL _ _ (byteL_lt a), octVal_bytes a ha]
theorem numFrom_noNoughts : ∀ l : List UInt8, numFrom hexK 0 (noNoughts l) = numFrom hexK 0 l
  | [] => rfl
  | c :: r => by
    unfold noNoughts
    by_cases h : c = 48
    · subst h
      rw [if_pos rfl, numFrom_noNoughts r]
      rfl
    · rw [if_neg h]
theorem noNoughts_head : ∀ l : List UInt8, (noNoughts l).head? ≠ some 48
  | [] => by simp [noNoughts]
  | c :: r => by
    unfold noNoughts
    by_cases h : c = 48
    · rw [if_pos h]; exact noNoughts_head r
    · rw [if_neg h]; simpa using h
theorem parse_hexStr (a : Nat) (ha : W256 a) : parseV (hexStr a) = .tuple #[wv a, .int .i64 0] := by
  have hn := numFrom_hexText a ha
  rw [← numFrom_noNoughts] at hn
  have key : ∀ d : List UInt8, numFrom hexK 0 d = some a → ¬ badDigits d → parseV ([48, 120] ++ d) = .tuple #[wv a, .int .i64 0] := by
    intro d hd hb
    have e1 : isHex ([48, 120] ++ d) = true := rfl
    have e2 : restOf ([48, 120] ++ d) = d := by unfold restOf; rw [e1]; rfl
    unfold parseV
    rw [e2, if_neg hb, e1]
    show wordIf (numFrom hexK 0 d) = _
    rw [hd]
    unfold wordIf
    exact if_pos ha
  unfold hexStr
  by_cases h0 : noNoughts (hexText a) = []
  · rw [if_pos h0]
    rw [h0] at hn
    have : a = 0 := by cases hn; rfl
    subst this
    exact key [48] rfl (by rintro (h | ⟨_, h⟩) <;> simp at h)
  · rw [if_neg h0]
    refine key _ hn ?_
    rintro (h | ⟨h, _⟩)
    · exact h0 h
    · exact noNoughts_head _ h

/-! ### Sums and products modulo 2^256 -/
theorem wmod_add_l (a b : Nat) : wmod (wmod a + b) = wmod (a + b) := by unfold wmod; exact Nat.mod_add_mod _ _ _
theorem wmod_add_r (a b : Nat) : wmod (a + wmod b) = wmod (a + b) := by unfold wmod; exact Nat.add_mod_mod _ _ _
theorem wmod_mul_l (a b : Nat) : wmod (wmod a * b) = wmod (a * b) := by unfold wmod; exact Nat.mod_mul_mod _ _ _
theorem wmod_mul_r (a b : Nat) : wmod (a * wmod b) = wmod (a * b) := by unfold wmod; exact Nat.mul_mod_mod _ _ _
theorem wsub_wmod (a b : Nat) (ha : W256 a) (hb : W256 b) : wsub (wmod (a + b)) b = a := by
  unfold W256 at *; unfold wsub wmod; omega
theorem wadd_wsub (a b : Nat) (ha : W256 a) (hb : W256 b) : wmod (wsub a b + b) = a := by
  unfold W256 at *; unfold wsub wmod; omega
theorem wsub_self (a : Nat) (ha : W256 a) : wsub a a = 0 := by unfold W256 at *; unfold wsub wmod; omega
theorem mul_ones (a : Nat) (ha : W256 a) : wmod (a * 115792089237316195423570985008687907853269984665640564039457584007913129639935) = wsub 0 a := by
  unfold W256 at *; unfold wsub wmod; omega
end Go.Proofs.YtadfkiebblmfkaaGreatDoor

/- The order of words, of their bytes, and of the lengths of their texts; bytes put behind bytes. Plain lists. -/
namespace Go.Proofs.YtadfkiebblmfkaaGreatDoor
open Go Go.RowKit

theorem octVal_from : ∀ (l : List UInt8) (n : Nat), octVal n l = n * 256 ^ l.length + octVal 0 l
  | [], n => by simp [octVal]
  | c :: r, n => by
    simp only [octVal, List.length_cons]
    rw [octVal_from r (n * 256 + c.toNat), octVal_from r (0 * 256 + c.toNat), Nat.pow_succ]
    rw [Nat.add_mul, Nat.add_mul, Nat.mul_assoc, Nat.mul_comm 256, Nat.zero_mul]
    omega
theorem octVal_append (a b : List UInt8) (n : Nat) : octVal n (a ++ b) = octVal (octVal n a) b := by
  induction a generalizing n with
  | nil => rfl
  | cons c r ih => exact ih _
theorem pow32 : (256 : Nat) ^ 32 = 115792089237316195423570985008687907853269984665640564039457584007913129639936 := by decide
/-- The last 32 bytes' number is that of all of them, modulo 2^256. -/
theorem fromB_wmod (l : List UInt8) : fromB l = wmod (octVal 0 l) := by
  unfold fromB wmod
  by_cases h : l.length ≤ 32
  · rw [show l.length - 32 = 0 by omega, List.drop_zero]
    have h1 := octVal_lt l
    have h2 : 256 ^ l.length ≤ 256 ^ 32 := Nat.pow_le_pow_right (by decide) h
    rw [pow32] at h2
    omega
  · have h1 := octVal_lt (l.drop (l.length - 32))
    have hl : (l.drop (l.length - 32)).length = 32 := by rw [List.length_drop]; omega
    have h2 := octVal_append (l.take (l.length - 32)) (l.drop (l.length - 32)) 0
    rw [List.take_append_drop, octVal_from (l.drop (l.length - 32)), hl, pow32] at h2
    rw [hl, pow32] at h1
    rw [h2]
    omega
theorem fromB_nought (l : List UInt8) : fromB (0 :: l) = fromB l := by
  rw [fromB_wmod, fromB_wmod]; rfl
/-- Bytes one by one: each one is 256 times what was there, and the byte. -/
def cutV (w : Nat) (l : List UInt8) : Nat := wmod (octVal w l)
theorem cutV_nil (w : Nat) (hw : W256 w) : cutV w [] = w := wmod_of hw
theorem octVal_wmod (l : List UInt8) (n : Nat) : wmod (octVal (wmod n) l) = wmod (octVal n l) := by
  rw [octVal_from l (wmod n), octVal_from l n, ← wmod_add_l, wmod_mul_l, wmod_add_l]
theorem cutV_snoc (w : Nat) (l : List UInt8) (c : UInt8) : cutV w (l ++ [c]) = wmod (wmod (cutV w l * 256) + c.toNat) := by
  unfold cutV
  rw [octVal_append, wmod_add_l]
  show wmod (octVal w l * 256 + c.toNat) = _
  rw [← wmod_add_l, ← wmod_mul_l, wmod_add_l]
theorem cutV_all (w : Nat) (hw : W256 w) (l : List UInt8) : fromB ((bytesOf w).data.toList ++ l) = cutV w l := by
  rw [fromB_wmod, octVal_append, cutV]
  have h := octVal_bytes w hw
  rw [← bytesOf_list] at h
  rw [h]

/-! ### The order -/
theorem less_val : ∀ (a b : List UInt8), a.length = b.length → (Op.bytesLess a b = true ↔ octVal 0 a < octVal 0 b)
  | [], [], _ => by simp [Op.bytesLess, octVal]
  | [], _ :: _, h => by simp at h
  | _ :: _, [], h => by simp at h
  | x :: r, y :: s, h => by
    have hl : r.length = s.length := by simpa using h
    have ih := less_val r s hl
    have h1 := octVal_lt r
    have h2 := octVal_lt s
    have e : Op.bytesLess (x :: r) (y :: s) = (decide (x < y) || (x == y && Op.bytesLess r s)) := rfl
    rw [e, Bool.or_eq_true, Bool.and_eq_true, decide_eq_true_iff, beq_iff_eq, ih, UInt8.lt_iff_toNat_lt, ← UInt8.toNat_inj]
    have e1 : octVal 0 (x :: r) = x.toNat * 256 ^ r.length + octVal 0 r := by
      show octVal (0 * 256 + x.toNat) r = _
      rw [octVal_from r (0 * 256 + x.toNat), Nat.zero_mul, Nat.zero_add]
    have e2 : octVal 0 (y :: s) = y.toNat * 256 ^ r.length + octVal 0 s := by
      show octVal (0 * 256 + y.toNat) s = _
      rw [octVal_from s (0 * 256 + y.toNat), Nat.zero_mul, Nat.zero_add, ← hl]
    rw [e1, e2]
    rw [← hl] at h2
    clear e1 e2
    generalize octVal 0 r = p at *
    generalize octVal 0 s = q at *
    generalize 256 ^ r.length = M at *
    generalize x.toNat = u at *
    generalize y.toNat = v at *
    clear ih e h hl
    constructor
    · rintro (h | ⟨rfl, h⟩)
      · have : u * M + M ≤ v * M := by rw [← Nat.succ_mul]; exact Nat.mul_le_mul_right _ h
        omega
      · omega
    · intro h
      by_cases c1 : u < v
      · exact .inl c1
      · by_cases c2 : v < u
        · exfalso
          have : v * M + M ≤ u * M := by rw [← Nat.succ_mul]; exact Nat.mul_le_mul_right _ c2
          omega
        · obtain rfl : u = v := by omega
          exact .inr ⟨rfl, by omega⟩
theorem less_bytes (a b : Nat) (ha : W256 a) (hb : W256 b) : Op.bytesLess (bytesOf a).toList (bytesOf b).toList = decide (a < b) := by
  rw [ByteArray.toList_eq, ByteArray.toList_eq]
  have h := less_val (bytesOf a).data.toList (bytesOf b).data.toList (by rw [bytesOf_list, bytesOf_list]; simp [byteL_length])
  have e1 : octVal 0 (bytesOf a).data.toList = a := by rw [bytesOf_list]; exact octVal_bytes a ha
  have e2 : octVal 0 (bytesOf b).data.toList = b := by rw [bytesOf_list]; exact octVal_bytes b hb
  rw [e1, e2] at h
  by_cases c : a < b
  · rw [h.2 c]; simp [c]
  · have : ¬ Op.bytesLess (bytesOf a).data.toList (bytesOf b).data.toList = true := fun e => c (h.1 e)
    simp [c, Bool.eq_false_iff.2 this]
theorem hexVal_lt (l : List UInt8) (m : Nat) (h : numFrom hexK 0 l = some m) : m < 16 ^ l.length := by
  have := numFrom_lt hexK l 0 m h
  rw [show hexK.base = 16 from rfl] at this
  simpa using this
theorem hexVal_ge : ∀ (l : List UInt8) (m : Nat), numFrom hexK 0 l = some m → l ≠ [] → l.head? ≠ some 48 → 16 ^ (l.length - 1) ≤ m
  | [], _, _, h, _ => absurd rfl h
  | c :: r, m, h, _, h3 => by
    simp only [numFrom] at h
    have hc : ∀ v, hexK.dig c = some v → v ≠ 0 := by
      intro v hv h0
      subst h0
      have h4 : c = 48 := by
        have : hexD c = some 0 := hv
        unfold hexD at this
        split at this
        · simp only [Option.some.injEq] at this
          exact UInt8.toNat_inj.1 (by simp; omega)
        · split at this
          · simp only [Option.some.injEq] at this; omega
          · cases this
      subst h4
      exact h3 rfl
    cases hd : hexK.dig c with
    | none => rw [hd] at h; cases h
    | some v =>
      rw [hd] at h
      have hv := hc v hd
      simp only [] at h
      rw [numFrom_zero] at h
      cases hr : numFrom hexK 0 r with
      | none => rw [hr] at h; cases h
      | some k =>
        rw [hr] at h
        simp only [Option.map_some, Option.some.injEq, Nat.zero_mul, Nat.zero_add] at h
        simp only [List.length_cons, Nat.add_sub_cancel]
        have : hexK.base = 16 := rfl
        rw [this] at h
        have h5 : 1 * 16 ^ r.length ≤ v * 16 ^ r.length := Nat.mul_le_mul_right _ (by omega)
        omega
theorem noNoughts_le (a b : Nat) (ha : W256 a) (hb : W256 b) (h : b ≤ a) : (noNoughts (hexText b)).length ≤ (noNoughts (hexText a)).length := by
  refine Nat.le_of_not_lt fun hlt => ?_
  have va := numFrom_hexText a ha
  have vb := numFrom_hexText b hb
  rw [← numFrom_noNoughts] at va vb
  have h1 := hexVal_lt _ _ va
  have hne : noNoughts (hexText b) ≠ [] := fun e => by rw [e] at hlt; simp at hlt
  have h2 := hexVal_ge _ _ vb hne (noNoughts_head _)
  have h3 : 16 ^ (noNoughts (hexText a)).length ≤ 16 ^ ((noNoughts (hexText b)).length - 1) := Nat.pow_le_pow_right (by decide) (by omega)
  omega
theorem hexStr_mono (a b : Nat) (ha : W256 a) (hb : W256 b) (h : b ≤ a) : (hexStr b).length ≤ (hexStr a).length := by
  have hm := noNoughts_le a b ha hb h
  unfold hexStr
  simp only [List.length_append]
  by_cases e1 : noNoughts (hexText b) = []
  · rw [if_pos e1]
    by_cases e2 : noNoughts (hexText a) = []
    · rw [if_pos e2]; exact Nat.le_refl _
    · rw [if_neg e2]
      have : 0 < (noNoughts (hexText a)).length := List.length_pos_iff.2 e2
      simp only [List.length_cons, List.length_nil]; omega
  · rw [if_neg e1, if_neg ?_]
    · omega
    · intro e2
      rw [e2] at hm
      exact e1 (List.length_eq_zero_iff.1 (by simpa using hm))

/-! ### Doubling -/
theorem dbl_x (w t : Nat) : wmod (wmod (w * 2 ^ t) + wmod (w * 2 ^ t)) = wmod (w * 2 ^ (t + 1)) := by
  rw [wmod_add_l, wmod_add_r, Nat.pow_succ, ← Nat.mul_assoc]
  congr 1
  omega
theorem dbl_end (w : Nat) : wmod (w * 2 ^ 256) = 0 := by
  unfold wmod
  rw [show (2 : Nat) ^ 256 = 115792089237316195423570985008687907853269984665640564039457584007913129639936 by decide]
  exact Nat.mul_mod_left _ _
/-- The upper s parts of a word. -/
def topN (w : Nat) : Nat → Nat
  | 0 => 0
  | s + 1 => topN w s * 18446744073709551616 + (lim w (3 - s)).toNat
theorem pow64 : (2 : Nat) ^ 64 = 18446744073709551616 := by decide
theorem topN_four (w : Nat) (hw : W256 w) : topN w 4 = w := by
  have h := num_lim w hw
  have e0 := lim_lo w 0
  have e1 := lim_lo w 1
  have e2 := lim_lo w 2
  have e3 := lim_lo w 3
  unfold num at h
  simp only [topN]
  show (((0 * 18446744073709551616 + (lim w 3).toNat) * 18446744073709551616 + (lim w 2).toNat) * 18446744073709551616 + (lim w 1).toNat) * 18446744073709551616 + (lim w 0).toNat = w
  generalize lim w 0 = p0 at *
  generalize lim w 1 = p1 at *
  generalize lim w 2 = p2 at *
  generalize lim w 3 = p3 at *
  omega
end Go.Proofs.YtadfkiebblmfkaaGreatDoor
