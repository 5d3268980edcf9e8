import Derived.Test.YtbbpmcebakckaaaGreatDoorU07
import Derived.Laws.MakeOwn
import Derived.Laws.AppendOwn
import Derived.OwnWalk
import Derived.WalkSmall
/- FromBytes; Parse. For every text that is not beyond the model's reach. -/
namespace Go.Proofs.YtbbpmcebakckaaaGreatDoor
open Go Go.RowKit Go.Shelf
attribute [local go_sem] Oper.semAt_some Grows wide_fn

/-- The number of a list of bytes, the highest one first. -/
def octVal : Nat → List UInt8 → Nat
  | n, [] => n
  | n, c :: r => octVal (n * 256 + c.toNat) r
theorem numFrom_oct : ∀ (l : List UInt8) (n : Nat), numFrom octK n l = some (octVal n l)
  | [], _ => rfl
  | c :: r, n => numFrom_oct r (n * 256 + c.toNat)
theorem octVal_lt (l : List UInt8) : octVal 0 l < 256 ^ l.length := by
  have h := numFrom_lt octK l 0 _ (numFrom_oct l 0)
  rw [octK_base] at h
  omega
/-- The word of a text's bytes. -/
def fromB (l : List UInt8) : Nat := octVal 0 (l.drop (l.length - 32))
theorem fromB_lt (l : List UInt8) : W256 (fromB l) := by
  unfold fromB
  have h := octVal_lt (l.drop (l.length - 32))
  have h1 : (l.drop (l.length - 32)).length ≤ 32 := by rw [List.length_drop]; omega
  have h2 : 256 ^ (l.drop (l.length - 32)).length ≤ 256 ^ 32 := Nat.pow_le_pow_right (by decide) h1
  have h3 : (256 : Nat) ^ 32 = 115792089237316195423570985008687907853269984665640564039457584007913129639936 := by decide
  unfold W256
  omega
theorem numV_oct (l : List UInt8) : numV octK (l.drop (l.length - 32)) = .tuple #[wv (fromB l), .bool true] :=
  numV_good octK _ (fromB l) (numFrom_oct _ 0) (fromB_lt l)

set_option maxRecDepth 100000 in
set_option maxHeartbeats 1000000 in
theorem fromBytes_ret (s : ByteArray) (hs : s.size ≤ 140737488355328) : Ret Tryz.prog 32 #[.string s] (wv (fromB s.data.toList)) := by
  intro w
  have A0 := World.alloc_heap_new w (.cells #[.int .u64 0, .int .u64 0, .int .u64 0, .int .u64 0] 25)
  have core : ∀ t : ByteArray, t.data.toList = s.data.toList.drop (s.data.toList.length - 32) → Ret Tryz.prog 53 #[.string t] (.tuple #[wv (fromB s.data.toList), .bool true]) := fun t ht => by
    have hsz : t.size ≤ 140737488355328 := by
      have h1 : t.data.toList.length = t.size := by simp
      have h2 : s.data.toList.length = s.size := by simp
      rw [ht, List.length_drop, h2] at h1
      omega
    have h := number_oct t hsz
    rw [ht, numV_oct] at h
    exact h
  have h32 : s.data.toList.length = s.size := by simp
  by_cases hlong : 32 < s.size
  · have hc := core (s.extract (s.size - 32) s.size) (by rw [extract_list, h32, List.take_of_length_le (by rw [List.length_drop, h32]; omega)])
    have z1 : (0 : Int) < (s.size : Int) - 32 := by omega
    have z2 : (s.size : Int) - 32 ≤ (s.size : Int) := by omega
    have z4 : (s.size : Int) ≤ 1000000000000000 := by omega
    have HC := Lib.hid hc
    generalize fromB s.data.toList = n at *
    unfold wv at HC ⊢
    clear hc core h32 hlong hs
    go_enter Tryz.func32, Tryz.ntmps32
    go_wp2_with fail
    refine (HC.out _).mono ?_
    rintro e w1 ⟨rfl, hb1⟩
    have A4 : Arr4 w1 w.heap.size 25 (fun _ => 0) := Arr4.below (m := fun _ => 0) A0 hb1 (by simp)
    have BB := ((Below.refl _ w).alloc (Nat.le_refl _) (.cells #[.int .u64 0, .int .u64 0, .int .u64 0, .int .u64 0] 25)).trans (hb1.mono (by simp))
    have hz := BB.size
    have hz2 := A4.lt
    have c0 := A4.cell (j := 0) (by omega)
    have c1 := A4.cell (j := 1) (by omega)
    have c2 := A4.cell (j := 2) (by omega)
    have c3 := A4.cell (j := 3) (by omega)
    have f0 := A4.frozen 0
    have f1 := A4.frozen 1
    have f2 := A4.frozen 2
    have f3 := A4.frozen 3
    replace A4 := Lib.hid A4
    clear A0 hb1 HC
    go_wp2
    refine bodyPost_ret (results_word rfl rfl ((A4.out.store _).alloc _)) rfl ⟨rfl, ?_⟩
    (repeat (first | exact BB | refine Below.setCell ?_ (by first | omega | (simp; done) | (simp; omega)) _ | refine Below.alloc ?_ (by first | omega | (simp; done) | (simp; omega)) _ | refine Below.drew ?_))
  · have hc := core s (by rw [h32, show s.size - 32 = 0 by omega, List.drop_zero])
    have z1 : (s.size : Int) - 32 ≤ 0 := by omega
    have z4 : (s.size : Int) ≤ 1000000000000000 := by omega
    have HC := Lib.hid hc
    generalize fromB s.data.toList = n at *
    unfold wv at HC ⊢
    clear hc core h32 hlong hs
    go_enter Tryz.func32, Tryz.ntmps32
    go_wp2_with fail
    refine (HC.out _).mono ?_
    rintro e w1 ⟨rfl, hb1⟩
    have A4 : Arr4 w1 w.heap.size 25 (fun _ => 0) := Arr4.below (m := fun _ => 0) A0 hb1 (by simp)
    have BB := ((Below.refl _ w).alloc (Nat.le_refl _) (.cells #[.int .u64 0, .int .u64 0, .int .u64 0, .int .u64 0] 25)).trans (hb1.mono (by simp))
    have hz := BB.size
    have hz2 := A4.lt
    have c0 := A4.cell (j := 0) (by omega)
    have c1 := A4.cell (j := 1) (by omega)
    have c2 := A4.cell (j := 2) (by omega)
    have c3 := A4.cell (j := 3) (by omega)
    have f0 := A4.frozen 0
    have f1 := A4.frozen 1
    have f2 := A4.frozen 2
    have f3 := A4.frozen 3
    replace A4 := Lib.hid A4
    clear A0 hb1 HC
    go_wp2
    refine bodyPost_ret (results_word rfl rfl ((A4.out.store _).alloc _)) rfl ⟨rfl, ?_⟩
    (repeat (first | exact BB | refine Below.setCell ?_ (by first | omega | (simp; done) | (simp; omega)) _ | refine Below.alloc ?_ (by first | omega | (simp; done) | (simp; omega)) _ | refine Below.drew ?_))

/-! ### Parse -/
/-- What CutPrefix tells of '0x'. -/
def isHex (l : List UInt8) : Bool := match l with | 48 :: 120 :: _ => true | _ => false
def restOf (l : List UInt8) : List UInt8 := if isHex l then l.drop 2 else l
def hexPre : ByteArray := ⟨#[48, 120]⟩
theorem isHex_iff (s : ByteArray) : isHex s.data.toList = true ↔ (2 ≤ s.size ∧ s.extract 0 2 = hexPre) := by
  have hl : s.data.toList.length = s.size := by simp
  constructor
  · intro h
    unfold isHex at h
    split at h
    · rename_i r e
      have h2 : 2 ≤ s.size := by rw [← hl, e]; simp
      refine ⟨h2, ?_⟩
      have : (s.extract 0 2).data.toList = hexPre.data.toList := by rw [extract_list, e]; rfl
      exact ByteArray.ext (Array.toList_inj.1 this)
    · cases h
  · rintro ⟨h2, he⟩
    have : (s.extract 0 2).data.toList = [48, 120] := by rw [he]; rfl
    rw [extract_list] at this
    match hs : s.data.toList with
    | [] => rw [hs] at hl; simp at hl; omega
    | [_] => rw [hs] at hl; simp at hl; omega
    | a :: b :: r =>
      rw [hs] at this
      simp at this
      obtain ⟨rfl, rfl⟩ := this
      rfl
def errV : Value := .tuple #[.agg #[.int .u64 0, .int .u64 0, .int .u64 0, .int .u64 0], .int .i64 3]
/-- The word of a number's text, if it is one. -/
def wordIf (o : Option Nat) : Value := match o with
  | some n => if n < 115792089237316195423570985008687907853269984665640564039457584007913129639936 then .tuple #[.agg #[.int .u64 (lim n 0), .int .u64 (lim n 1), .int .u64 (lim n 2), .int .u64 (lim n 3)], .int .i64 0] else errV
  | none => errV
def badDigits (d : List UInt8) : Prop := d = [] ∨ (d.head? = some 48 ∧ d ≠ [48])
instance (d : List UInt8) : Decidable (badDigits d) := by unfold badDigits; infer_instance
def parseV (l : List UInt8) : Value := if badDigits (restOf l) then errV else wordIf (numFrom (if isHex l then hexK else decK) 0 (restOf l))

/-- What stands behind CutPrefix. -/
def tailV (K : Kind) (d : List UInt8) : Value := if badDigits d then errV else wordIf (numFrom K 0 d)

theorem numV_cases (K : Kind) (d : List UInt8) : (∃ n, wordIf (numFrom K 0 d) = .tuple #[.agg #[.int .u64 (lim n 0), .int .u64 (lim n 1), .int .u64 (lim n 2), .int .u64 (lim n 3)], .int .i64 0] ∧ numV K d = .tuple #[.agg #[.int .u64 (lim n 0), .int .u64 (lim n 1), .int .u64 (lim n 2), .int .u64 (lim n 3)], .bool true]) ∨
    (wordIf (numFrom K 0 d) = errV ∧ numV K d = .tuple #[.agg #[.int .u64 0, .int .u64 0, .int .u64 0, .int .u64 0], .bool false]) := by
  unfold wordIf numV
  cases numFrom K 0 d with
  | none => exact .inr ⟨rfl, rfl⟩
  | some n =>
    simp only []
    by_cases h : n < 115792089237316195423570985008687907853269984665640564039457584007913129639936
    · exact .inl ⟨n, if_pos h, if_pos h⟩
    · exact .inr ⟨if_neg h, if_neg h⟩

theorem results_wordE {fn : Func} {t u : Tmp} {tmps : Array Value} {W : World} {B : Nat} {m : Nat → Int} (h : fn.results = #[ResultVar.cell t 25, ResultVar.tmp u]) (ht : tmps.getD t undef = .pointer (some ⟨B, 0, none⟩)) (hA : Arr4 W B 25 m) :
    (results fn tmps).run Tryz.prog W = .ok (.tuple #[.agg #[.int .u64 (m 0), .int .u64 (m 1), .int .u64 (m 2), .int .u64 (m 3)], tmps.getD u undef]) W := by
  have e0 := hA.cell (j := 0) (by omega)
  have e1 := hA.cell (j := 1) (by omega)
  have e2 := hA.cell (j := 2) (by omega)
  have e3 := hA.cell (j := 3) (by omega)
  simp at ht
  simp [results, h, ht, go_sem, e0, e1, e2, e3]

end Go.Proofs.YtbbpmcebakckaaaGreatDoor

/- TrimLeft at 0; the first of two texts that is not empty. For every text. -/
namespace Go.Proofs.YtbbpmcebakckaaaGreatDoor
open Go Go.RowKit Go.Shelf
attribute [local go_sem] Oper.semAt_some Grows wide_fn

/-- Without the noughts ahead. -/
def noNoughts : List UInt8 → List UInt8
  | [] => []
  | c :: r => if c = 48 then noNoughts r else c :: r

set_option maxRecDepth 100000 in
set_option maxHeartbeats 1000000 in
theorem trimByte (s : ByteArray) (hs : s.size ≤ 140737488355328) (w : World) : Calls Tryz.prog 43 #[.string s, .int .u8 48] w fun e w' => (∃ t : ByteArray, e = .returned (.string t) ∧ t.data.toList = noNoughts s.data.toList) ∧ w = w' := by
  go_enter Tryz.func43, Tryz.ntmps43
  go_wp2
  go_loop [0] (fun x => ∃ t : ByteArray, x = .string t ∧ t.size ≤ 140737488355328 ∧ noNoughts t.data.toList = noNoughts s.data.toList) (fun x => match x with | .string t => t.size | _ => 0)
  case atStart => exact ⟨s, rfl, hs, rfl⟩
  case round =>
    obtain ⟨t, rfl, hts, hn⟩ := hrel
    have hl : t.data.toList.length = t.size := by simp
    by_cases h0 : t.size = 0
    · have z0 : ¬ (0 : Int) < (t.size : Int) := by omega
      have HN : Hid (t.data.toList = noNoughts s.data.toList) := by
        rw [← hn]
        have : t.data.toList = [] := List.eq_nil_of_length_eq_zero (by rw [hl]; exact h0)
        rw [this]; rfl
      clear hn hl h0
      go_wp2
      go_ret
      exact ⟨⟨t, rfl, HN.out⟩, rfl⟩
    · obtain ⟨c, r, hcr⟩ : ∃ c r, t.data.toList = c :: r := by
        cases hx : t.data.toList with
        | nil => rw [hx] at hl; simp at hl; omega
        | cons c r => exact ⟨c, r, rfl⟩
      have hlt : 0 < t.size := by omega
      have hc0 : t[0] = c := by
        have : t.data.toList[0]? = some c := by rw [hcr]; rfl
        have h2 : t.data.toList[0]? = some t[0] := by rw [List.getElem?_eq_getElem (by rw [hl]; exact hlt)]; rfl
        exact Option.some.inj (h2.symm.trans this)
      have hltI : (0 : Int) < (t.size : Int) := by omega
      have z1 : (1 : Int) ≤ (t.size : Int) := by omega
      by_cases hc : c = 48
      · subst hc
        have e4 : ((t[0].toNat : Int) == 48) = true := by rw [hc0]; rfl
        have HN : Hid (noNoughts (t.extract 1 t.size).data.toList = noNoughts s.data.toList) := by
          rw [← hn, extract_list, List.take_of_length_le (by rw [List.length_drop, hl]; omega), hcr]
          rfl
        have HS : Hid ((t.extract 1 t.size).size ≤ 140737488355328 ∧ (t.extract 1 t.size).size < t.size) := by
          rw [ByteArray.size_extract]; exact ⟨by omega, by omega⟩
        clear hn hl h0 hcr hc0
        go_wp2
        go_round
        case rel => exact ⟨_, rfl, HS.out.1, HN.out⟩
        case measure => exact HS.out.2
      · have e4 : ((t[0].toNat : Int) == 48) = false := by
          rw [hc0, beq_eq_false_iff_ne]
          intro e
          have : c.toNat = 48 := by omega
          exact hc (UInt8.toNat_inj.1 (by rw [this]; rfl))
        have HN : Hid (t.data.toList = noNoughts s.data.toList) := by
          rw [← hn, hcr]
          exact (if_neg hc).symm
        clear hn hl h0 hcr hc0
        go_wp2
        go_ret
        exact ⟨⟨t, rfl, HN.out⟩, rfl⟩

set_option maxRecDepth 100000 in
set_option maxHeartbeats 1000000 in
theorem trim_any (s : ByteArray) (hs : s.size ≤ 140737488355328) (w : World) : Calls Tryz.prog 24 #[.string s, .string ⟨#[48]⟩] w fun e w' => (∃ t : ByteArray, e = .returned (.string t) ∧ t.data.toList = noNoughts s.data.toList) ∧ w = w' := by
  have HT := Lib.hid (trimByte s hs)
  by_cases h0 : s.toList = []
  · have e2 : s.toList.isEmpty = true := by rw [h0]; rfl
    have HN : Hid (s.data.toList = noNoughts s.data.toList) := by
      rw [ByteArray.toList_eq] at h0
      rw [h0]; rfl
    have HO := Lib.hid h0
    clear h0
    go_enter Tryz.func24, Tryz.ntmps24
    go_wp2
    go_ret
    exact ⟨⟨s, rfl, HN.out⟩, rfl⟩
  · have e2 : s.toList.isEmpty = false := by
      cases h : s.toList with
      | nil => exact absurd h h0
      | cons _ _ => rfl
    go_enter Tryz.func24, Tryz.ntmps24
    go_wp2_with (go_at_call 43; refine (HT.out _).mono ?_; rintro e w' ⟨⟨t, rfl, ht⟩, rfl⟩; replace ht := Lib.hid ht)
    go_ret
    exact ⟨⟨_, rfl, Hid.out (by assumption)⟩, rfl⟩


end Go.Proofs.YtbbpmcebakckaaaGreatDoor

/- Hex. For every word. -/
namespace Go.Proofs.YtbbpmcebakckaaaGreatDoor
open Go Go.RowKit Go.Shelf
attribute [local go_sem] Oper.semAt_some Grows wide_fn

/-- A digit's letter. -/
def letter (v : Nat) : Nat := if v < 10 then 48 + v else 87 + v
def lets : ByteArray := ⟨#[48, 49, 50, 51, 52, 53, 54, 55, 56, 57, 97, 98, 99, 100, 101, 102]⟩
theorem lets_at : ∀ v : Fin 16, ((⟨#[48, 49, 50, 51, 52, 53, 54, 55, 56, 57, 97, 98, 99, 100, 101, 102]⟩ : ByteArray)[v.val]'(v.isLt)).toNat = letter v.val := by decide
theorem and15 (b : Nat) (hb : b < 256) : bits .and .u8 (b : Int) 15 = ((b % 16 : Nat) : Int) := by
  have h : ∀ n : Fin 256, bits .and .u8 (n.val : Int) 15 = ((n.val % 16 : Nat) : Int) := by decide +kernel
  exact h ⟨b, hb⟩
/-- The letters of a list of numbers below 256. -/
def hexL : List Nat → List Int
  | [] => []
  | b :: r => (letter (b / 16) : Int) :: (letter (b % 16) : Int) :: hexL r
theorem hexL_append : ∀ (a b : List Nat), hexL (a ++ b) = hexL a ++ hexL b
  | [], b => rfl
  | x :: r, b => by simp [hexL, hexL_append r b]
theorem hexL_length : ∀ l : List Nat, (hexL l).length = 2 * l.length
  | [] => rfl
  | x :: r => by simp [hexL, hexL_length r]; omega
theorem noNoughts_length : ∀ l : List UInt8, (noNoughts l).length ≤ l.length
  | [] => by simp [noNoughts]
  | c :: r => by
    unfold noNoughts
    split
    · have := noNoughts_length r; simp; omega
    · simp
theorem letter_range (v : Nat) (h : v < 16) : 48 ≤ letter v ∧ letter v < 103 := by unfold letter; split <;> omega
theorem hexL_range : ∀ (l : List Nat), (∀ b ∈ l, b < 256) → ∀ x ∈ hexL l, 0 ≤ x ∧ x < 256
  | [], _, x, hx => by cases hx
  | b :: r, h, x, hx => by
    have hb := h b (by simp)
    have h1 := letter_range (b / 16) (by omega)
    have h2 := letter_range (b % 16) (by omega)
    simp only [hexL, List.mem_cons] at hx
    rcases hx with rfl | rfl | hx
    · omega
    · omega
    · exact hexL_range r (fun y hy => h y (by simp [hy])) x hx
def zer64 : Array Value := madeCells #[.int .u8 0] 64
theorem infoB : (Tryz.prog.info? 5).map (fun i => (i.zero, i.size, i.bytes)) = some (some (.int .u8 0), 1, 1) := by kernel_rfl
theorem run_mk64 (W : World) : (Instr.makeSlice 49 (.int .i64 0) (.int .i64 64)).run Tryz.prog W = .ok (.slice (some ⟨W.heap.size, 0, none⟩) 0 64) (W.alloc (.cells zer64 5)) := by
  obtain ⟨i0, hi, hz0, hz1, hz2⟩ := info_parts infoB
  have h := run_make (P := Tryz.prog) W 49 5 i0 (.int .u8 0) Tryz.underlying49 hi hz0 .i64 .i64 0 64 (by decide) (by decide) (by rw [hz2]; decide) (by decide)
  rw [hz1] at h
  exact h
theorem owns_below {w w' : World} {base : Nat} {e : TypeId} {size : Nat} {v : Value} {n : Nat} {xs : List Value} (h : w.ownsRow base e size v n xs) (hb : Below w.heap.size w w') : w'.ownsRow base e size v n xs :=
  h.kept (grown_of_below hb none) (by cases hv : v.ownBlock <;> simp)
theorem row_ne {w : World} {base : Nat} {e : TypeId} {size : Nat} {v : Value} {n : Nat} {xs : List Value} (h : w.ownsRow base e size v n xs) {b : Nat} {C : Array Value} {t : TypeId} {p q : Nat} (hb : w.heap[b]? = some (.cells C t (p, q + 1))) : some b ≠ v.ownBlock := by
  rcases h.2 with ⟨rfl, _⟩ | ⟨g, cap, cur, rfl, _, hg, _⟩
  · simp [Value.ownBlock]
  · intro e
    simp [Value.ownBlock] at e
    subst e
    rw [hb] at hg
    cases hg
/-- The bytes of a number, as numbers, the highest one first. -/
def byteL (a : Nat) : List Nat := (List.range 32).map fun j => byteN a (31 - j)
theorem byteL_lt' (a : Nat) : ∀ b ∈ byteL a, b < 256 := by
  intro b hb
  obtain ⟨j, _, rfl⟩ := List.mem_map.1 hb
  exact byteN_lt _ _
theorem byteL_length (a : Nat) : (byteL a).length = 32 := by simp [byteL]
theorem bytesOf_list (a : Nat) : (bytesOf a).data.toList = (byteL a).map UInt8.ofNat := by
  unfold bytesOf strOfNums byteL
  simp [Function.comp_def]
theorem bytesOf_size (a : Nat) : (bytesOf a).size = 32 := by
  have : (bytesOf a).data.toList.length = 32 := by rw [bytesOf_list]; simp [byteL]
  simpa using this
def hexText (a : Nat) : List UInt8 := (hexL (byteL a)).map fun n => UInt8.ofNat n.toNat
def hexStr (a : Nat) : List UInt8 := [48, 120] ++ (if noNoughts (hexText a) = [] then [48] else noNoughts (hexText a))

end Go.Proofs.YtbbpmcebakckaaaGreatDoor

/- What the laws of words say of numbers: plain arithmetic and lists. -/
namespace Go.Proofs.YtbbpmcebakckaaaGreatDoor
open Go Go.RowKit

/-! ### Bytes and letters of a number -/
theorem byte_step (a t : Nat) : a / 256 ^ (t + 1) * 256 + byteN a t = a / 256 ^ t := by
  unfold byteN
  rw [Nat.pow_succ, ← Nat.div_div_eq_div_mul]
  omega
theorem byteL_take (a : Nat) : ∀ k, k ≤ 32 → octVal 0 (((List.range k).map fun j => byteN a (31 - j)).map UInt8.ofNat) = a / 256 ^ (32 - k) % 256 ^ k
  | 0, _ => by simp [octVal, Nat.mod_one]
  | k + 1, hk => by
    rw [List.range_succ, List.map_append, List.map_append]
    have h : ∀ (l : List UInt8) (n : Nat) (c : UInt8), octVal n (l ++ [c]) = octVal n l * 256 + c.toNat := by
      intro l
      induction l with
      | nil => intro n c; rfl
      | cons x r ih => intro n c; exact ih _ c
    simp only [List.map_cons, List.map_nil]
    rw [h, byteL_take a k (by omega), UInt8.toNat_ofNat', Nat.mod_eq_of_lt (show byteN a (31 - k) < 2 ^ 8 from byteN_lt a _)]
    have e1 : 32 - k = (31 - k) + 1 := by omega
    have e2 : 32 - (k + 1) = 31 - k := by omega
    have hs := byte_step a (31 - k)
    rw [e1, e2]
    rw [← hs]
    clear hs h e1 e2
    generalize a / 256 ^ (31 - k + 1) = q
    have hb := byteN_lt a (31 - k)
    generalize byteN a (31 - k) = b at *
    rw [Nat.pow_succ, Nat.mul_comm (256 ^ k) 256, Nat.mod_mul]
    have e3 : (q * 256 + b) % 256 = b := by omega
    have e4 : (q * 256 + b) / 256 = q := by omega
    rw [e3, e4]
    exact (Nat.add_comm _ _).trans (congrArg (b + ·) (Nat.mul_comm _ _)) |>.symm ▸ rfl
theorem octVal_bytes (a : Nat) (ha : W256 a) : octVal 0 ((byteL a).map UInt8.ofNat) = a := by
  have h := byteL_take a 32 (Nat.le_refl _)
  have e : (256 : Nat) ^ 32 = 115792089237316195423570985008687907853269984665640564039457584007913129639936 := by decide
  rw [e, Nat.sub_self, Nat.pow_zero, Nat.div_one, Nat.mod_eq_of_lt ha] at h
  exact h
theorem fromB_bytes (a : Nat) (ha : W256 a) : fromB (bytesOf a).data.toList = a := by
  unfold fromB
  rw [bytesOf_list]
  simp only [List.length_map, byteL_length, Nat.sub_self, List.drop_zero]
  exact octVal_bytes a ha
theorem fromB_behind (p : List UInt8) (a : Nat) (ha : W256 a) : fromB (p ++ (bytesOf a).data.toList) = a := by
  unfold fromB
  rw [bytesOf_list]
  have : (p ++ (byteL a).map UInt8.ofNat).length - 32 = p.length := by simp [byteL_length]
  rw [this, List.drop_left]
  exact octVal_bytes a ha

theorem hexD_letter : ∀ v : Fin 16, hexD (UInt8.ofNat (letter v.val)) = some v.val := by decide
theorem numFrom_hexL : ∀ (l : List Nat) (n : Nat), (∀ b ∈ l, b < 256) → numFrom hexK n ((hexL l).map fun x => UInt8.ofNat x.toNat) = some (octVal n (l.map UInt8.ofNat))
  | [], _, _ => rfl
  | b :: r, n, h => by
    have hb := h b (by simp)
    have h1 := hexD_letter ⟨b / 16, by omega⟩
    have h2 := hexD_letter ⟨b % 16, by omega⟩
    simp only [hexL, List.map_cons, numFrom, Int.toNat_natCast]
    show (match hexD (UInt8.ofNat (letter (b / 16))) with | some v => _ | none => none) = _
    rw [h1]
    simp only []
    show (match hexD (UInt8.ofNat (letter (b % 16))) with | some v => _ | none => none) = _
    rw [h2]
    simp only []
    rw [numFrom_hexL r _ (fun x hx => h x (by simp [hx]))]
    simp only [octVal]
    rw [UInt8.toNat_ofNat', Nat.mod_eq_of_lt (show b < 2 ^ 8 from hb)]
    show some (octVal ((n * 16 + b / 16) * 16 + b % 16) _) = _
    rw [show (n * 16 + b / 16) * 16 + b % 16 = n * 256 + b by omega]
theorem byteL_lt (a : Nat) : ∀ b ∈ byteL a, b < 256 := by
  intro b hb
  obtain ⟨j, _, rfl⟩ := List.mem_map.1 hb
  exact byteN_lt _ _
theorem numFrom_hexText (a : Nat) (ha : W256 a) : numFrom hexK 0 (hexText a) = some a := by
  unfold hexText
  rw [numFrom_hexL _ _ (byteL_lt a), octVal_bytes a ha]
theorem numFrom_noNoughts : ∀ l : List UInt8, numFrom hexK 0 (noNoughts l) = numFrom hexK 0 l
  | [] => rfl
  | c :: r => by
    unfold noNoughts
    by_cases h : c = 48
    · subst h
      rw [if_pos rfl, numFrom_noNoughts r]
      rfl
    · rw [if_neg h]
theorem noNoughts_head : ∀ l : List UInt8, (noNoughts l).head? ≠ some 48
  | [] => by simp [noNoughts]
  | c :: r => by
    unfold noNoughts
    by_cases h : c = 48
    · rw [if_pos h]; exact noNoughts_head r
    · rw [if_neg h]; simpa using h
theorem parse_hexStr (a : Nat) (ha : W256 a) : parseV (hexStr a) = .tuple #[wv a, .int .i64 0] := by
  have hn := numFrom_hexText a ha
  rw [← numFrom_noNoughts] at hn
  have key : ∀ d : List UInt8, numFrom hexK 0 d = some a → ¬ badDigits d → parseV ([48, 120] ++ d) = .tuple #[wv a, .int .i64 0] := by
    intro d hd hb
    have e1 : isHex ([48, 120] ++ d) = true := rfl
    have e2 : restOf ([48, 120] ++ d) = d := by unfold restOf; rw [e1]; rfl
    unfold parseV
    rw [e2, if_neg hb, e1]
    show wordIf (numFrom hexK 0 d) = _
    rw [hd]
    unfold wordIf
    exact if_pos ha
  unfold hexStr
  by_cases h0 : noNoughts (hexText a) = []
  · rw [if_pos h0]
    rw [h0] at hn
    have : a = 0 := by cases hn; rfl
    subst this
    exact key [48] rfl (by rintro (h | ⟨_, h⟩) <;> simp at h)
  · rw [if_neg h0]
    refine key _ hn ?_
    rintro (h | ⟨h, _⟩)
    · exact h0 h
    · exact noNoughts_head _ h

/-! ### Sums and products modulo 2^256 -/
theorem wmod_add_l (a b : Nat) : wmod (wmod a + b) = wmod (a + b) := by unfold wmod; exact Nat.mod_add_mod _ _ _
theorem wmod_add_r (a b : Nat) : wmod (a + wmod b) = wmod (a + b) := by unfold wmod; exact Nat.add_mod_mod _ _ _
theorem wmod_mul_l (a b : Nat) : wmod (wmod a * b) = wmod (a * b) := by unfold wmod; exact Nat.mod_mul_mod _ _ _
theorem wmod_mul_r (a b : Nat) : wmod (a * wmod b) = wmod (a * b) := by unfold wmod; exact Nat.mul_mod_mod _ _ _
theorem wsub_wmod (a b : Nat) (ha : W256 a) (hb : W256 b) : wsub (wmod (a + b)) b = a := by
  unfold W256 at *; unfold wsub wmod; omega
theorem wadd_wsub (a b : Nat) (ha : W256 a) (hb : W256 b) : wmod (wsub a b + b) = a := by
  unfold W256 at *; unfold wsub wmod; omega
theorem wsub_self (a : Nat) (ha : W256 a) : wsub a a = 0 := by unfold W256 at *; unfold wsub wmod; omega
theorem mul_ones (a : Nat) (ha : W256 a) : wmod (a * 115792089237316195423570985008687907853269984665640564039457584007913129639935) = wsub 0 a := by
  unfold W256 at *; unfold wsub wmod; omega
end Go.Proofs.YtbbpmcebakckaaaGreatDoor

/- The order of words, of their bytes, and of the lengths of their texts; bytes put behind bytes. Plain lists. -/
namespace Go.Proofs.YtbbpmcebakckaaaGreatDoor
open Go Go.RowKit

theorem octVal_from : ∀ (l : List UInt8) (n : Nat), octVal n l = n * 256 ^ l.length + octVal 0 l
  | [], n => by simp [octVal]
  | c :: r, n => by
    simp only [octVal, List.length_cons]
    rw [octVal_from r (n * 256 + c.toNat), octVal_from r (0 * 256 + c.toNat), Nat.pow_succ]
    rw [Nat.add_mul, Nat.add_mul, Nat.mul_assoc, Nat.mul_comm 256, Nat.zero_mul]
    omega
theorem octVal_append (a b : List UInt8) (n : Nat) : octVal n (a ++ b) = octVal (octVal n a) b := by
  induction a generalizing n with
  | nil => rfl
  | cons c r ih => exact ih _
theorem pow32 : (256 : Nat) ^ 32 = 115792089237316195423570985008687907853269984665640564039457584007913129639936 := by decide
/-- The last 32 bytes' number is that of all of them, modulo 2^256. -/
theorem fromB_wmod (l : List UInt8) : fromB l = wmod (octVal 0 l) := by
  unfold fromB wmod
  by_cases h : l.length ≤ 32
  · rw [show l.length - 32 = 0 by omega, List.drop_zero]
    have h1 := octVal_lt l
    have h2 : 256 ^ l.length ≤ 256 ^ 32 := Nat.pow_le_pow_right (by decide) h
    rw [pow32] at h2
    omega
  · have h1 := octVal_lt (l.drop (l.length - 32))
    have hl : (l.drop (l.length - 32)).length = 32 := by rw [List.length_drop]; omega
    have h2 := octVal_append (l.take (l.length - 32)) (l.drop (l.length - 32)) 0
    rw [List.take_append_drop, octVal_from (l.drop (l.length - 32)), hl, pow32] at h2
    rw [hl, pow32] at h1
    rw [h2]
    omega
theorem fromB_nought (l : List UInt8) : fromB (0 :: l) = fromB l := by
  rw [fromB_wmod, fromB_wmod]; rfl
/-- Bytes one by one: each one is 256 times what was there, and the byte. -/
def cutV (w : Nat) (l : List UInt8) : Nat := wmod (octVal w l)
theorem cutV_nil (w : Nat) (hw : W256 w) : cutV w [] = w := wmod_of hw
theorem octVal_wmod (l : List UInt8) (n : Nat) : wmod (octVal (wmod n) l) = wmod (octVal n l) := by
  rw [octVal_from l (wmod n), octVal_from l n, ← wmod_add_l, wmod_mul_l, wmod_add_l]
theorem cutV_snoc (w : Nat) (l : List UInt8) (c : UInt8) : cutV w (l ++ [c]) = wmod (wmod (cutV w l * 256) + c.toNat) := by
  unfold cutV
  rw [octVal_append, wmod_add_l]
  show wmod (octVal w l * 256 + c.toNat) = _
  rw [← wmod_add_l, ← wmod_mul_l, wmod_add_l]
theorem cutV_all (w : Nat) (hw : W256 w) (l : List UInt8) : fromB ((bytesOf w).data.toList ++ l) = cutV w l := by
  rw [fromB_wmod, octVal_append, cutV]
  have h := octVal_bytes w hw
  rw [← bytesOf_list] at h
  rw [h]

/-! ### The order -/
theorem less_val : ∀ (a b : List UInt8), a.length = b.length → (Op.bytesLess a b = true ↔ octVal 0 a < octVal 0 b)
  | [], [], _ => by simp [Op.bytesLess, octVal]
  | [], _ :: _, h => by simp at h
  | _ :: _, [], h => by simp at h
  | x :: r, y :: s, h => by
    have hl : r.length = s.length := by simpa using h
    have ih := less_val r s hl
    have h1 := octVal_lt r
    have h2 := octVal_lt s
    have e : Op.bytesLess (x :: r) (y :: s) = (decide (x < y) || (x == y && Op.bytesLess r s)) := rfl
    rw [e, Bool.or_eq_true, Bool.and_eq_true, decide_eq_true_iff, beq_iff_eq, ih, UInt8.lt_iff_toNat_lt, ← UInt8.toNat_inj]
    have e1 : octVal 0 (x :: r) = x.toNat * 256 ^ r.length + octVal 0 r := by
      show octVal (0 * 256 + x.toNat) r = _
      rw [octVal_from r (0 * 256 + x.toNat), Nat.zero_mul, Nat.zero_add]
    have e2 : octVal 0 (y :: s) = y.toNat * 256 ^ r.length + octVal 0 s := by
      show octVal (0 * 256 + y.toNat) s = _
      rw [octVal_from s (0 * 256 + y.toNat), Nat.zero_mul, Nat.zero_add, ← hl]
    rw [e1, e2]
    rw [← hl] at h2
    clear e1 e2
    generalize octVal 0 r = p at *
    generalize octVal 0 s = q at *
    generalize 256 ^ r.length = M at *
    generalize x.toNat = u at *
    generalize y.toNat = v at *
    clear ih e h hl
    constructor
    · rintro (h | ⟨rfl, h⟩)
      · have : u * M + M ≤ v * M := by rw [← Nat.succ_mul]; exact Nat.mul_le_mul_right _ h
        omega
      · omega
    · intro h
      by_cases c1 : u < v
      · exact .inl c1
      · by_cases c2 : v < u
        · exfalso
          have : v * M + M ≤ u * M := by rw [← Nat.succ_mul]; exact Nat.mul_le_mul_right _ c2
          omega
        · obtain rfl : u = v := by omega
          exact .inr ⟨rfl, by omega⟩
theorem less_bytes (a b : Nat) (ha : W256 a) (hb : W256 b) : Op.bytesLess (bytesOf a).toList (bytesOf b).toList = decide (a < b) := by
  rw [ByteArray.toList_eq, ByteArray.toList_eq]
  have h := less_val (bytesOf a).data.toList (bytesOf b).data.toList (by rw [bytesOf_list, bytesOf_list]; simp [byteL_length])
  have e1 : octVal 0 (bytesOf a).data.toList = a := by rw [bytesOf_list]; exact octVal_bytes a ha
  have e2 : octVal 0 (bytesOf b).data.toList = b := by rw [bytesOf_list]; exact octVal_bytes b hb
  rw [e1, e2] at h
  by_cases c : a < b
  · rw [h.2 c]; simp [c]
  · have : ¬ Op.bytesLess (bytesOf a).data.toList (bytesOf b).data.toList = true := fun e => c (h.1 e)
    simp [c, Bool.eq_false_iff.2 this]
theorem hexVal_lt (l : List UInt8) (m : Nat) (h : numFrom hexK 0 l = some m) : m < 16 ^ l.length := by
  have := numFrom_lt hexK l 0 m h
  rw [show hexK.base = 16 from rfl] at this
  simpa using this
theorem hexVal_ge : ∀ (l : List UInt8) (m : Nat), numFrom hexK 0 l = some m → l ≠ [] → l.head? ≠ some 48 → 16 ^ (l.length - 1) ≤ m
  | [], _, _, h, _ => absurd rfl h
  | c :: r, m, h, _, h3 => by
    simp only [numFrom] at h
    have hc : ∀ v, hexK.dig c = some v → v ≠ 0 := by
      intro v hv h0
      subst h0
      have h4 : c = 48 := by
        have : hexD c = some 0 := hv
        unfold hexD at this
        split at this
        · simp only [Option.some.injEq] at this
          exact UInt8.toNat_inj.1 (by simp; omega)
        · split at this
          · simp only [Option.some.injEq] at this; omega
          · cases this
      subst h4
      exact h3 rfl
    cases hd : hexK.dig c with
    | none => rw [hd] at h; cases h
    | some v =>
      rw [hd] at h
      have hv := hc v hd
      simp only [] at h
      rw [numFrom_zero] at h
      cases hr : numFrom hexK 0 r with
      | none => rw [hr] at h; cases h
      | some k =>
        rw [hr] at h
        simp only [Option.map_some, Option.some.injEq, Nat.zero_mul, Nat.zero_add] at h
        simp only [List.length_cons, Nat.add_sub_cancel]
        have : hexK.base = 16 := rfl
        rw [this] at h
        have h5 : 1 * 16 ^ r.length ≤ v * 16 ^ r.length := Nat.mul_le_mul_right _ (by omega)
        omega
theorem noNoughts_le (a b : Nat) (ha : W256 a) (hb : W256 b) (h : b ≤ a) : (noNoughts (hexText b)).length ≤ (noNoughts (hexText a)).length := by
  refine Nat.le_of_not_lt fun hlt => ?_
  have va := numFrom_hexText a ha
  have vb := numFrom_hexText b hb
  rw [← numFrom_noNoughts] at va vb
  have h1 := hexVal_lt _ _ va
  have hne : noNoughts (hexText b) ≠ [] := fun e => by rw [e] at hlt; simp at hlt
  have h2 := hexVal_ge _ _ vb hne (noNoughts_head _)
  have h3 : 16 ^ (noNoughts (hexText a)).length ≤ 16 ^ ((noNoughts (hexText b)).length - 1) := Nat.pow_le_pow_right (by decide) (by omega)
  omega
theorem hexStr_mono (a b : Nat) (ha : W256 a) (hb : W256 b) (h : b ≤ a) : (hexStr b).length ≤ (hexStr a).length := by
  have hm := noNoughts_le a b ha hb h
  unfold hexStr
  simp only [List.length_append]
  by_cases e1 : noNoughts (hexText b) = []
  · rw [if_pos e1]
    by_cases e2 : noNoughts (hexText a) = []
    · rw [if_pos e2]; exact Nat.le_refl _
    · rw [if_neg e2]
      have : 0 < (noNoughts (hexText a)).length := List.length_pos_iff.2 e2
      simp only [List.length_cons, List.length_nil]; omega
  · rw [if_neg e1, if_neg ?_]
    · omega
    · intro e2
      rw [e2] at hm
      exact e1 (List.length_eq_zero_iff.1 (by simpa using hm))

/-! ### Doubling -/
theorem dbl_x (w t : Nat) : wmod (wmod (w * 2 ^ t) + wmod (w * 2 ^ t)) = wmod (w * 2 ^ (t + 1)) := by
  rw [wmod_add_l, wmod_add_r, Nat.pow_succ, ← Nat.mul_assoc]
  congr 1
  omega
theorem dbl_end (w : Nat) : wmod (w * 2 ^ 256) = 0 := by
  unfold wmod
  rw [show (2 : Nat) ^ 256 = 115792089237316195423570985008687907853269984665640564039457584007913129639936 by decide]
  exact Nat.mul_mod_left _ _
/-- The upper s parts of a word. -/
def topN (w : Nat) : Nat → Nat
  | 0 => 0
  | s + 1 => topN w s * 18446744073709551616 + (lim w (3 - s)).toNat
theorem pow64 : (2 : Nat) ^ 64 = 18446744073709551616 := by decide
theorem topN_four (w : Nat) (hw : W256 w) : topN w 4 = w := by
  have h := num_lim w hw
  have e0 := lim_lo w 0
  have e1 := lim_lo w 1
  have e2 := lim_lo w 2
  have e3 := lim_lo w 3
  unfold num at h
  simp only [topN]
  show (((0 * 18446744073709551616 + (lim w 3).toNat) * 18446744073709551616 + (lim w 2).toNat) * 18446744073709551616 + (lim w 1).toNat) * 18446744073709551616 + (lim w 0).toNat = w
  generalize lim w 0 = p0 at *
  generalize lim w 1 = p1 at *
  generalize lim w 2 = p2 at *
  generalize lim w 3 = p3 at *
  omega
end Go.Proofs.YtbbpmcebakckaaaGreatDoor
