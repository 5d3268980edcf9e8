/- Hex. For every word. -/
import Derived.Test.YtgejdkiehcpinaaDoorWordM
import Derived.Laws.MakeOwn
import Derived.Laws.AppendOwn
import Derived.OwnWalk
import Derived.WalkSmall
namespace Go.Proofs.YtgejdkiehcpinaaDoor
open Go Go.RowKit Go.Shelf
attribute [local go_sem] Oper.semAt_some Grows wide_fn

/-- A digit's letter. -/
def letter (v : Nat) : Nat := if v < 10 then 48 + v else 87 + v
def lets : ByteArray := ⟨#[48, 49, 50, 51, 52, 53, 54, 55, 56, 57, 97, 98, 99, 100, 101, 102]⟩
theorem lets_at : ∀ v : Fin 16, ((⟨#[48, 49, 50, 51, 52, 53, 54, 55, 56, 57, 97, 98, 99, 100, 101, 102]⟩ : ByteArray)[v.val]'(v.isLt)).toNat = letter v.val := by decide
theorem and15 (b : Nat) (hb : b < 256) : bits .and .u8 (b : Int) 15 = ((b % 16 : Nat) : Int) := by
  have h : ∀ n : Fin 256, bits .and .u8 (n.val : Int) 15 = ((n.val % 16 : Nat) : Int) := by decide +kernel
  exact h ⟨b, hb⟩
/-- The letters of a list of numbers below 256. -/
def hexL : List Nat → List Int
  | [] => []
  | b :: r => (letter (b / 16) : Int) :: (letter (b % 16) : Int) :: hexL r
theorem hexL_append : ∀ (a b : List Nat), hexL (a ++ b) = hexL a ++ hexL b
  | [], b => rfl
  | x :: r, b => by simp [hexL, hexL_append r b]
theorem hexL_length : ∀ l : List Nat, (hexL l).length = 2 * l.length
  | [] => rfl
  | x :: r => by simp [hexL, hexL_length r]; omega
theorem noNoughts_length : ∀ l : List UInt8, (noNoughts l).length ≤ l.length
  | [] => by simp [noNoughts]
  | c :: r => by
    unfold noNoughts
    split
    · have := noNoughts_length r; simp; omega
    · simp
theorem letter_range (v : Nat) (h : v < 16) : 48 ≤ letter v ∧ letter v < 103 := by unfold letter; split <;> omega
theorem hexL_range : ∀ (l : List Nat), (∀ b ∈ l, b < 256) → ∀ x ∈ hexL l, 0 ≤ x ∧ x < 256
  | [], _, x, hx => by cases hx
  | b :: r, h, x, hx => by
    have hb := h b (by simp)
    have h1 := letter_range (b / 16) (by omega)
    have h2 := letter_range (b % 16) (by omega)
    simp only [hexL, List.mem_cons] at hx
    rcases hx with rfl | rfl | hx
    · omega
    · omega
    · exact hexL_range r (fun y hy => h y (by simp [hy])) x hx
def zer64 : Array Value := madeCells #[.int .u8 0] 64
theorem infoB : (Tryd.prog.info? 5).map (fun i => (i.zero, i.size, i.bytes)) = some (some (.int .u8 0), 1, 1) := by kernel_rfl
theorem run_mk64 (W : World) : (Instr.makeSlice 61 (.int .i64 0) (.int .i64 64)).run Tryd.prog W = .ok (.slice (some ⟨W.heap.size, 0, none⟩) 0 64) (W.alloc (.cells zer64 5)) := by
  obtain ⟨i0, hi, hz0, hz1, hz2⟩ := info_parts infoB
  have h := run_make (P := Tryd.prog) W 61 5 i0 (.int .u8 0) Tryd.underlying61 hi hz0 .i64 .i64 0 64 (by decide) (by decide) (by rw [hz2]; decide) (by decide)
  rw [hz1] at h
  exact h
theorem owns_below {w w' : World} {base : Nat} {e : TypeId} {size : Nat} {v : Value} {n : Nat} {xs : List Value} (h : w.ownsRow base e size v n xs) (hb : Below w.heap.size w w') : w'.ownsRow base e size v n xs :=
  h.kept (grown_of_below hb none) (by cases hv : v.ownBlock <;> simp)
theorem row_ne {w : World} {base : Nat} {e : TypeId} {size : Nat} {v : Value} {n : Nat} {xs : List Value} (h : w.ownsRow base e size v n xs) {b : Nat} {C : Array Value} {t : TypeId} {p q : Nat} (hb : w.heap[b]? = some (.cells C t (p, q + 1))) : some b ≠ v.ownBlock := by
  rcases h.2 with ⟨rfl, _⟩ | ⟨g, cap, cur, rfl, _, hg, _⟩
  · simp [Value.ownBlock]
  · intro e
    simp [Value.ownBlock] at e
    subst e
    rw [hb] at hg
    cases hg
/-- The bytes of a number, as numbers, the highest one first. -/
def byteL (a : Nat) : List Nat := (List.range 32).map fun j => byteN a (31 - j)
theorem byteL_lt' (a : Nat) : ∀ b ∈ byteL a, b < 256 := by
  intro b hb
  obtain ⟨j, _, rfl⟩ := List.mem_map.1 hb
  exact byteN_lt _ _
theorem byteL_length (a : Nat) : (byteL a).length = 32 := by simp [byteL]
theorem bytesOf_list (a : Nat) : (bytesOf a).data.toList = (byteL a).map UInt8.ofNat := by
  unfold bytesOf strOfNums byteL
  simp [Function.comp_def]
theorem bytesOf_size (a : Nat) : (bytesOf a).size = 32 := by
  have : (bytesOf a).data.toList.length = 32 := by rw [bytesOf_list]; simp [byteL]
  simpa using this
def hexText (a : Nat) : List UInt8 := (hexL (byteL a)).map fun n => UInt8.ofNat n.toNat
def hexStr (a : Nat) : List UInt8 := [48, 120] ++ (if noNoughts (hexText a) = [] then [48] else noNoughts (hexText a))

set_option maxRecDepth 100000 in
set_option maxHeartbeats 2000000 in
theorem hex_any (a : Nat) (ha : W256 a) (w : World) : Calls Tryd.prog 23 #[wv a] w fun e w' => (∃ t : ByteArray, e = .returned (.string t) ∧ t.data.toList = hexStr a) ∧ Below w.heap.size w w' := by
  have hb := Lib.hid (bytes_ret a ha)
  have hmk := run_mk64
  have A0 := Arr4.word w 24 a
  unfold wv at hb ⊢
  go_enter Tryd.func23, Tryd.ntmps23
  go_wp2_with fail
  have R0 := World.ownsRow_made (base := w.heap.size + 1) (e := 5) (size := 1) (w.alloc (.cells #[.int .u64 (lim a 0), .int .u64 (lim a 1), .int .u64 (lim a 2), .int .u64 (lim a 3)] 24)) zer64 64 (by simp) (by decide) (by simp [zer64, size_madeCells])
  rw [World.size_alloc] at R0
  refine (hb.out _).mono ?_
  rintro e w1 ⟨rfl, hb1⟩
  have R1 := R0.kept (grown_of_below hb1 none) (.inr (by simp [Value.ownBlock]))
  have B1 := (((Below.refl _ w).alloc (Nat.le_refl _) (.cells #[.int .u64 (lim a 0), .int .u64 (lim a 1), .int .u64 (lim a 2), .int .u64 (lim a 3)] 24)).alloc (by simp) (.cells zer64 5)).trans (hb1.mono (by simp; omega))
  have hz1 : w.heap.size + 2 ≤ w1.heap.size := by have := hb1.size; simp at this; omega
  obtain ⟨cap, C, hcv, hC⟩ : ∃ cap C, (convert 9 61 (.string (bytesOf a))).run Tryd.prog w1 = .ok (.slice (some ⟨w1.heap.size, 0, none⟩) 32 cap) (w1.drew.alloc (.cells C 5 (C.size, C.size + 1))) ∧ ∀ j, j < 32 → C[j]? = some (.int .u8 (byteN a (31 - j) : Int)) := by
    have h := run_bytes_of_string (P := Tryd.prog) w1 9 61 5 (bytesOf a) Tryd.underlying9 Tryd.underlying61 Tryd.underlying5
    rw [bytesOf_size] at h
    refine ⟨_, _, h, fun j hj => ?_⟩
    have hs : j < (bytesOf a).data.size := by have := bytesOf_size a; show j < (bytesOf a).size; omega
    rw [bytesRow_at _ _ _ hs]
    have : (bytesOf a).data.toList[j]? = some (UInt8.ofNat (byteN a (31 - j))) := by rw [bytesOf_list]; simp [byteL, hj]
    have h2 : (bytesOf a).data[j] = UInt8.ofNat (byteN a (31 - j)) := by
      rw [List.getElem?_eq_getElem (by simpa using hs)] at this
      exact Option.some.inj this
    rw [h2, UInt8.toNat_ofNat', Nat.mod_eq_of_lt (by exact byteN_lt a (31 - j))]
  have HR := Lib.hid R1
  have HB := Lib.hid B1
  clear R0 R1 B1 hb1 A0 hb
  go_wp2
  obtain ⟨W2, hW2⟩ : ∃ W2, (w1.alloc (.cells C 5 (C.size, C.size + 1))).drew = W2 := ⟨_, rfl⟩
  have hBK : W2.heap[w1.heap.size]? = some (.cells C 5 (C.size, C.size + 1)) := by rw [← hW2]; exact World.alloc_heap_new w1 _
  have R2 : W2.ownsRow (w.heap.size + 1) 5 1 (.slice (some ⟨w.heap.size + 1, 0, none⟩) 0 64) 0 [] := by rw [← hW2]; exact HR.out.alloc _
  have B2 : Below w.heap.size w W2 := by rw [← hW2]; exact (HB.out.alloc (by omega) _).drew
  have hz2 : w1.heap.size < W2.heap.size := by rw [← hW2]; show w1.heap.size < (w1.alloc _).heap.size; simp
  rw [hW2]
  clear hW2 hcv HR HB hmk
  go_loopw [3, 11] (fun t i wr => ∃ k : Nat, k ≤ 32 ∧ i = .int .i64 k ∧ wr.ownsRow (w.heap.size + 1) 5 1 t (2 * k) ((hexL ((byteL a).take k)).map (Value.int .u8)) ∧ wr.heap[w1.heap.size]? = some (.cells C 5 (C.size, C.size + 1)) ∧ Below w.heap.size w wr ∧ w.heap.size + 1 ≤ wr.heap.size) (fun _ i _ => 32 - (intOf i).toNat)
  case atStart => exact ⟨0, by omega, rfl, R2, hBK, B2, by omega⟩
  case round =>
    obtain ⟨k, hk, rfl, hown, hbk, hB, hsz⟩ := hrel
    by_cases hlt : k < 32
    · have hbv : wr.cell? ⟨w1.heap.size, k, none⟩ = some (.int .u8 (byteN a (31 - k) : Int)) := by simp [World.cell?, hbk, hC k hlt]
      have hb0 : byteN a (31 - k) < 256 := byteN_lt _ _
      have hkI : (k : Int) < 32 := by omega
      have hOW := Lib.hid hown
      have hBB := Lib.hid (And.intro hbk hB)
      have hCC := Lib.hid hC
      generalize hbb : byteN a (31 - k) = b at *
      have HBB := Lib.hid hbb
      have hbI0 : (0 : Int) ≤ (b : Int) := by omega
      have hbI : (b : Int) < 256 := by omega
      have hq0 : (0 : Int) ≤ (b : Int) / 16 := by omega
      have hq1 : (b : Int) / 16 < 16 := by omega
      have hq2 : b / 16 < 16 := by omega
      have hr2 : b % 16 < 16 := by omega
      have hr0 : (0 : Int) ≤ (b : Int) % 16 := by omega
      have hr1 : (b : Int) % 16 < 16 := by omega
      have hl1 := lets_at ⟨b / 16, hq2⟩
      have hl2 := lets_at ⟨b % 16, hr2⟩
      have han := and15 b hb0
      have han2 : ((b % 16 : Nat) : Int) = (b : Int) % 16 := by omega
      rw [han2] at han
      simp only [] at hl1 hl2
      clear hbb hown hbk hB hC R2 hBK B2 han2
      go_wp2
      refine wp_region_mix (C := Grows wr) [some false, some false, some true, some true, some false, some true, some true, none, none, none] (by kernel_rfl) (by kernel_rfl) (by kernel_rfl) (grows_refl wr) ?_
      simp only [headOf, tailOf]
      repeat (go_big_quiet_step (fail))
      refine wpQuiet_nil ?_
      rintro _ ⟨x, rfl⟩
      obtain ⟨i0, hi, hz0, hz1, hz2⟩ := info_parts infoB
      have hownx := owns_below hOW.out x.below
      have hxs := x.below.size
      have hbk := hBB.out.1
      have hB := hBB.out.2
      have hbkx : x.w.heap[w1.heap.size]? = some (.cells C 5 (C.size, C.size + 1)) := (x.below.block _ (Array.getElem?_eq_some_iff.1 hbk).1).trans hbk
      have hBx : Below w.heap.size w x.w := hB.trans (x.below.mono hB.size)
      have hk64 : 2 * k + 2 ≤ 64 := by omega
      have HX := Lib.hid (And.intro hownx (And.intro hbkx hBx))
      simp only [hl1, hl2]
      clear hl1 hl2 hownx hbkx hBx hbk hB hq2 hr2
      go_wp2_with (at_builtin; refine wpList_append_own _ rfl _ _ 61 rfl (w.heap.size + 1) 5 i0 (.int .u8 0) 1 1 Tryd.underlying61 hi hz0 hz1 hz2 rfl (by decide) _ _ _ rfl (HX.out.1.alloc _) ⟨x.w.heap.size, 0, none⟩ 2 2 [.int .u8 (letter (b / 16) : Int), .int .u8 (letter (b % 16) : Int)] rfl rfl (cell_two_new _ _ _ _) (by simp [Value.oneCell']) (by unfold maxLen; omega) (by omega) (by simp; omega) ?_; intro v' w3 hown' hgrow hnil)
      rw [calmPost_normal]
      have hwk : ∀ P : Prop, P → P := fun _ h => h
      clear hwk hi hz0 hz1 hz2
      go_wp2
      go_roundw
      case rel =>
        have hbk3 : w3.heap[w1.heap.size]? = some (.cells C 5 (C.size, C.size + 1)) := (hgrow.block _ (by have := (Array.getElem?_eq_some_iff.1 HX.out.2.1).1; simp; omega) (row_ne HX.out.1 HX.out.2.1)).trans ((Below.heap_alloc _ _ _ (Array.getElem?_eq_some_iff.1 HX.out.2.1).1).trans HX.out.2.1)
        have hB3 : Below w.heap.size w w3 := (HX.out.2.2.alloc (by omega) _).grown hgrow (by simp; omega) (fun j e => by have := HX.out.1.lt j e; omega)
        have hxs3 := hgrow.size
        refine ⟨k + 1, by omega, by simp, ?_, hbk3, hB3, by simp at hxs3; omega⟩
        have e : ((hexL ((byteL a).take (k + 1))).map (Value.int .u8)) = ((hexL ((byteL a).take k)).map (Value.int .u8)) ++ [.int .u8 (letter (b / 16) : Int), .int .u8 (letter (b % 16) : Int)] := by
          have ht : (byteL a).take (k + 1) = (byteL a).take k ++ [b] := by
            rw [List.take_succ_eq_append_getElem (by rw [byteL_length]; exact hlt)]
            congr 1
            simp [byteL, HBB.out]
          rw [ht, hexL_append, List.map_append]
          rfl
        rw [e, show 2 * (k + 1) = 2 * k + 2 by omega]
        exact hown'
      case measure => simp [intOf]; omega
    · obtain rfl : k = 32 := by omega
      have hx32 : (byteL a).take 32 = byteL a := List.take_of_length_le (by rw [byteL_length]; omega)
      rw [hx32] at hown
      obtain ⟨g, cap2, rfl⟩ := ownsRow_succ (k := 63) hown
      have hback : (convert 61 9 (.slice (some ⟨g, 0, none⟩) 64 cap2)).run Tryd.prog wr = .ok (.string ⟨(hexText a).toArray⟩) wr := by
        have hl64 : (hexText a).length = 64 := by unfold hexText; rw [List.length_map, hexL_length, byteL_length]
        have h := run_convert_bytes_back (P := Tryd.prog) wr 61 9 5 ⟨g, 0, none⟩ cap2 (hexText a) Tryd.underlying61 Tryd.underlying5 Tryd.underlying9 (fun j hj => by
          have hj2 : j < (hexL (byteL a)).length := by unfold hexText at hj; simpa using hj
          have hcell := hown.cells (g := g) rfl j (.int .u8 ((hexL (byteL a))[j])) (by simp [hj2])
          rw [hcell]
          congr 2
          have hgt : (hexText a)[j] = UInt8.ofNat ((hexL (byteL a))[j]).toNat := by
            have h1 : (hexText a)[j]? = ((hexL (byteL a))[j]?).map fun n => UInt8.ofNat n.toNat := by unfold hexText; exact List.getElem?_map
            rw [List.getElem?_eq_getElem hj, List.getElem?_eq_getElem hj2] at h1
            exact Option.some.inj h1
          refine Eq.trans ?_ (congrArg (fun c : UInt8 => (c.toNat : Int)) hgt).symm
          show (hexL (byteL a))[j] = ((UInt8.ofNat ((hexL (byteL a))[j]).toNat).toNat : Int)
          have hr := hexL_range (byteL a) (byteL_lt' a) _ (List.getElem_mem hj2)
          rw [UInt8.toNat_ofNat']
          omega)
        rw [hl64] at h
        exact h
      have hsz0 : (⟨(hexText a).toArray⟩ : ByteArray).size = 64 := by
        show ((hexText a).toArray).size = 64
        unfold hexText; simp [hexL_length, byteL_length]
      have htr := trim_any ⟨(hexText a).toArray⟩ (by omega)
      have HT := Lib.hid htr
      have HTT : Hid (hexText a = (⟨(hexText a).toArray⟩ : ByteArray).data.toList) := rfl
      have HB := Lib.hid hB
      clear hown hbk hB R2 hBK B2 hC htr hsz0 hx32
      generalize (⟨(hexText a).toArray⟩ : ByteArray) = T at *
      go_wp2_with fail
      refine (HT.out _).mono ?_
      rintro e w2 ⟨⟨t, rfl, ht⟩, rfl⟩
      have hHT := Lib.hid ht
      have htl : t.data.toList.length ≤ 64 := by
        rw [ht]
        have h1 := noNoughts_length T.data.toList
        have h2 : T.data.toList.length = 64 := by rw [← HTT.out]; simp [hexText, hexL_length, byteL_length]
        omega
      clear ht HT
      go_wp2_with fail
      refine (or_str t ⟨#[48]⟩ _ _ _ (by go_simp) (by go_simp) (by rw [ByteArray.toList_eq]; simp)).mono ?_
      rintro e w3 ⟨rfl, rfl⟩
      obtain ⟨r, hr⟩ : ∃ r : ByteArray, (if t.toList = [] then (⟨#[48]⟩ : ByteArray) else t) = r := ⟨_, rfl⟩
      rw [hr]
      have hrs : r.size ≤ 64 := by
        rw [← hr]
        split
        · decide
        · have : t.data.toList.length = t.size := by simp
          omega
      have hrl : r.data.toList = if noNoughts (hexText a) = [] then [48] else noNoughts (hexText a) := by
        rw [← hr, ByteArray.toList_eq, hHT.out, ← HTT.out]
        split
        · rfl
        · rw [hHT.out, ← HTT.out]
      have HRL := Lib.hid hrl
      have hrI : (2 : Int) + (r.size : Int) ≤ 1000 := by omega
      clear hr hrl hrs htl hHT HTT hback
      go_wp2
      go_ret
      refine ⟨⟨_, rfl, ?_⟩, HB.out.alloc HB.out.size _⟩
      unfold hexStr
      rw [← HRL.out]
      rw [ByteArray.data_append]
      simp
end Go.Proofs.YtgejdkiehcpinaaDoor
