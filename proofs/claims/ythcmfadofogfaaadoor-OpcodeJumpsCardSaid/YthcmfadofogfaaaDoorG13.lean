/- OpcodeLines, walked, and what it uses of the model. Conditions: none. -/
import Derived.Test.YthcmfadofogfaaaDoorG12
namespace Go.Proofs.YthcmfadofogfaaaDoor
section
open Go Go.RowKit

theorem byteAt_app (a b : List UInt8) {p : Nat} (h : p < a.length) : byteAt (a ++ b) p = byteAt a p := by
  unfold byteAt
  rw [List.getD_eq_getElem?_getD, List.getD_eq_getElem?_getD, List.getElem?_append_left h]
theorem byteAt_shift (a b : List UInt8) (q : Nat) : byteAt (a ++ b) (a.length + q) = byteAt b q := by
  unfold byteAt
  rw [List.getD_eq_getElem?_getD, List.getD_eq_getElem?_getD, List.getElem?_append_right (by omega), Nat.add_sub_cancel_left]
theorem nextP_app (a b : List UInt8) {p : Nat} (h : p < a.length) : nextP (a ++ b) p = nextP a p := by unfold nextP; rw [byteAt_app a b h]
theorem nextP_shift (a b : List UInt8) (q : Nat) : nextP (a ++ b) (a.length + q) = a.length + nextP b q := by unfold nextP; rw [byteAt_shift]; omega
theorem placesF_more (c : List UInt8) : ∀ (f g p : Nat), c.length - p ≤ f → c.length - p ≤ g → placesF c f p = placesF c g p
  | 0, g, p, h, _ => by cases g with
    | zero => rfl
    | succ g => unfold placesF; rw [if_neg (by omega)]
  | f + 1, 0, p, _, h => by unfold placesF; rw [if_neg (by omega)]
  | f + 1, g + 1, p, h1, h2 => by
    unfold placesF
    by_cases hp : p < c.length
    · have := nextP_gt c p
      rw [if_pos hp, if_pos hp, placesF_more c f g (nextP c p) (by omega) (by omega)]
    · rw [if_neg hp, if_neg hp]
theorem places_shift (a b : List UInt8) : ∀ (f q : Nat), placesF (a ++ b) f (a.length + q) = (placesF b f q).map (a.length + ·)
  | 0, _ => rfl
  | f + 1, q => by
    unfold placesF
    by_cases hq : q < b.length
    · rw [if_pos (by rw [List.length_append]; omega), if_pos hq, List.map_cons, nextP_shift, places_shift a b f (nextP b q)]
    · rw [if_neg (by rw [List.length_append]; omega), if_neg hq]; rfl
/-- The places end at the code's end. -/
def LandP (a : List UInt8) : Nat → Nat → Prop
  | 0, p => p = a.length
  | f + 1, p => if p < a.length then LandP a f (nextP a p) else p = a.length
theorem land_end (a : List UInt8) : ∀ f, LandP a f a.length
  | 0 => rfl
  | f + 1 => by unfold LandP; rw [if_neg (Nat.lt_irrefl _)]
theorem land_le (a : List UInt8) : ∀ f p, LandP a f p → p ≤ a.length
  | 0, p, h => Nat.le_of_eq h
  | f + 1, p, h => by
    unfold LandP at h
    split at h
    · omega
    · omega
theorem land_app (a b : List UInt8) (hb : ∀ f, b.length ≤ f → LandP b f 0) : ∀ (f g p : Nat), LandP a f p → a.length + b.length - p ≤ g → LandP (a ++ b) g p := by
  have hs : ∀ (f q : Nat), LandP b f q → LandP (a ++ b) f (a.length + q) := by
    intro f
    induction f with
    | zero => intro q h; unfold LandP at h ⊢; rw [h, List.length_append]
    | succ f ih =>
      intro q h
      unfold LandP at h ⊢
      by_cases hq : q < b.length
      · rw [if_pos hq] at h
        rw [if_pos (by rw [List.length_append]; omega), nextP_shift]
        exact ih _ h
      · rw [if_neg hq] at h
        rw [if_neg (by rw [List.length_append]; omega), List.length_append, h]
  intro f
  induction f with
  | zero =>
    intro g p h hg
    have h : p = a.length := h
    subst h
    exact hs g 0 (hb g (by omega))
  | succ f ih =>
    intro g p h hg
    unfold LandP at h
    by_cases hp : p < a.length
    · rw [if_pos hp] at h
      have := nextP_gt a p
      cases g with
      | zero => omega
      | succ g =>
        unfold LandP
        rw [if_pos (by rw [List.length_append]; omega), nextP_app a b hp]
        exact ih g _ h (by omega)
    · rw [if_neg hp] at h
      subst h
      exact hs g 0 (hb g (by omega))
theorem land_code {a : List UInt8} (h : CodeP a) : ∀ f, a.length ≤ f → LandP a f 0 := by
  induction h with
  | nil => intro f _; exact land_end [] f
  | @snoc l h op bs hb ih =>
    intro f hf
    refine land_app l (op :: bs) (fun g hg => ?_) l.length f 0 (ih _ (Nat.le_refl _)) (by rw [List.length_append] at hf; omega)
    cases g with
    | zero => simp at hg
    | succ g =>
      unfold LandP
      rw [if_pos (by simp)]
      have e : nextP (op :: bs) 0 = (op :: bs).length := by
        unfold nextP byteAt
        show 0 + 1 + pushN op.toNat = _
        rw [List.length_cons, hb]; omega
      rw [e]
      exact land_end _ g
theorem land_whole (a : List UInt8) : ∀ f p, LandP a f p → WholeP a f p
  | 0, _, _ => fun q hq => by cases hq
  | f + 1, p, h => fun q hq => by
    unfold LandP at h
    unfold placesF at hq
    by_cases hp : p < a.length
    · rw [if_pos hp] at h hq
      rcases List.mem_cons.1 hq with rfl | hq
      · exact land_le a f _ h
      · exact land_whole a f _ h q hq
    · rw [if_neg hp] at hq; cases hq
theorem places_app (a b : List UInt8) : ∀ (f g p : Nat), LandP a f p → a.length + b.length - p ≤ g → placesF (a ++ b) g p = placesF a f p ++ (placesL b).map (a.length + ·)
  | 0, g, p, h, hg => by
    have h : p = a.length := h
    subst h
    have := places_shift a b g 0
    rw [Nat.add_zero] at this
    rw [this, placesF_more b g b.length 0 (by omega) (by omega)]
    rfl
  | f + 1, g, p, h, hg => by
    unfold LandP at h
    by_cases hp : p < a.length
    · rw [if_pos hp] at h
      have := nextP_gt a p
      cases g with
      | zero => omega
      | succ g =>
        rw [placesF, placesF, if_pos (by rw [List.length_append]; omega), if_pos hp, nextP_app a b hp, places_app a b f g _ h (by omega)]
        rfl
    · rw [if_neg hp] at h
      subst h
      have := places_shift a b g 0
      rw [Nat.add_zero] at this
      rw [this, placesF_more b g b.length 0 (by omega) (by omega), placesF, if_neg (Nat.lt_irrefl _)]
      rfl
theorem behind_app (a b : List UInt8) (p n : Nat) (h : p + 1 + n ≤ a.length) : behindL (a ++ b) p n = behindL a p n := by
  unfold behindL
  rw [List.drop_append_of_le_length (by omega), List.take_append_of_le_length (by rw [List.length_drop]; omega)]
theorem behind_shift (a b : List UInt8) (q n : Nat) : behindL (a ++ b) (a.length + q) n = behindL b q n := by
  unfold behindL
  rw [show a.length + q + 1 = a.length + (q + 1) by omega, ← List.drop_drop, List.drop_left]
theorem line_app (a b : List UInt8) {p : Nat} (hp : p < a.length) (hn : nextP a p ≤ a.length) : lineL (a ++ b) p = lineL a p := by
  unfold lineL
  rw [byteAt_app a b hp, behind_app a b p _ (by unfold nextP at hn; omega)]
theorem line_shift (a b : List UInt8) (q : Nat) : lineL (a ++ b) (a.length + q) = lineL b q := by
  unfold lineL
  rw [byteAt_shift, behind_shift]
theorem flatMap_same {f g : Nat → List UInt8} : ∀ l : List Nat, (∀ x ∈ l, f x = g x) → l.flatMap f = l.flatMap g
  | [], _ => rfl
  | x :: l, h => by rw [List.flatMap_cons, List.flatMap_cons, h x (by simp), flatMap_same l fun y hy => h y (by simp [hy])]
theorem places_mem (c : List UInt8) : ∀ (f p : Nat), ∀ q ∈ placesF c f p, q < c.length
  | 0, _, q, h => by cases h
  | f + 1, p, q, h => by
    unfold placesF at h
    split at h
    · rcases List.mem_cons.1 h with rfl | h
      · assumption
      · exact places_mem c f _ q h
    · cases h
theorem text_app {a : List UInt8} (h : CodeP a) (b : List UInt8) : textL (a ++ b) = textL a ++ textL b := by
  have hl := land_code h a.length (Nat.le_refl _)
  unfold textL
  rw [show placesL (a ++ b) = placesF (a ++ b) (a ++ b).length 0 from rfl, places_app a b a.length _ 0 hl (by rw [List.length_append]; omega), List.flatMap_append, List.flatMap_map]
  congr 1
  · exact flatMap_same _ fun p hp => line_app a b (places_mem a _ _ p hp) (land_whole a _ _ hl p hp)
  · exact flatMap_same _ fun q _ => line_shift a b q
/-- What stands behind a code's text is parsed behind it. -/
theorem parse_two {a : List UInt8} (h : CodeP a) (r : List UInt8) : parseL (textL a ++ r) = parseF (linesL r) (placesL a).length a := by
  have hl := land_code h a.length (Nat.le_refl _)
  unfold parseL textL
  rw [lines_text a r (placesL a)]
  have := parse_lines a (linesL r) a.length 0 0 [] (by omega) (.inr (land_whole a _ _ hl))
  unfold placesL
  rw [this, Nat.zero_add]
  rfl
theorem parse_both {a : List UInt8} (h : CodeP a) (b : List UInt8) : parseL (textL a ++ textL b) = .inr (a ++ b) := by
  rw [parse_two h]
  unfold textL
  have e := lines_text b [] (placesL b)
  rw [List.append_nil] at e
  rw [e]
  have := parse_lines b [] b.length 0 (placesL a).length a (by omega) (.inl rfl)
  rw [show linesL [] = [] from rfl]
  show parseF ((placesF b b.length 0).map (lineL b) ++ []) (placesL a).length a = _
  rw [this]
  rfl
theorem read_what (last : Bool) : readL [87, 72, 65, 84] last = .inl 42 := by cases last <;> decide +kernel
theorem read_push2 : readL [80, 85, 83, 72, 50, 32, 48, 120, 48, 49] false = .inl 3 := by decide +kernel
theorem parse_what {a : List UInt8} (h : CodeP a) (r : List UInt8) : parseL (textL a ++ ([87, 72, 65, 84] ++ 10 :: r)) = .inl (42, (placesL a).length) := by
  rw [parse_two h, linesL_body _ _ (by decide), parseF, chompL_body, read_what]
theorem linesL_ne {s : List UInt8} (h : s ≠ []) : (linesL s == []) = false := by
  unfold linesL
  cases s with
  | nil => exact absurd rfl h
  | cons x s => rw [List.length_cons, linesF, if_neg (by simp)]; rfl
theorem parse_push2 {a : List UInt8} (h : CodeP a) {r : List UInt8} (hr : r ≠ []) : parseL (textL a ++ ([80, 85, 83, 72, 50, 32, 48, 120, 48, 49] ++ 10 :: r)) = .inl (3, (placesL a).length) := by
  rw [parse_two h, linesL_body _ _ (by decide), parseF, chompL_body, linesL_ne hr, read_push2]
theorem count_line (c : List UInt8) (p : Nat) : (lineL c p).count 10 = 1 := by
  rw [line_body, List.count_append, List.count_eq_zero.2 (fun h => bodyL_plain c p 10 h rfl)]
  rfl
theorem count_text (c : List UInt8) : (textL c).count 10 = (placesL c).length := by
  unfold textL
  induction placesL c with
  | nil => rfl
  | cons p l ih => rw [List.flatMap_cons, List.count_append, count_line, ih, List.length_cons]; omega
end
section
open Go Go.RowKit Go.Maps
attribute [local go_sem] Oper.semAt_some Grows wide_fn

theorem bytes_app (x y : ByteArray) : (x ++ y).data.toList = x.data.toList ++ y.data.toList := by simp [ByteArray.data_append]
theorem bytes_sum (x y : ByteArray) : (x ++ y).size = x.size + y.size := by simp [ByteArray.size_append]
theorem bytes_eq {x : ByteArray} {l : List UInt8} (h : x.data.toList = l) : x = ⟨l.toArray⟩ := by
  apply ByteArray.ext
  apply Array.ext'
  simpa using h
theorem take_countL (l : List UInt8) (k : Nat) (h : k < l.length) : (l.take (k + 1)).count 10 = (l.take k).count 10 + (if l[k] = 10 then 1 else 0) := by
  rw [List.take_add_one, List.count_append, List.getElem?_eq_getElem h]
  by_cases e : l[k] = 10
  · rw [if_pos e, e]; rfl
  · rw [if_neg e]
    have e' : ¬ 10 = l[k] := fun h => e h.symm
    have h0 : List.count 10 [l[k]] = 0 := List.count_eq_zero.2 (by simpa using e')
    show _ + List.count 10 [l[k]] = _
    rw [h0]
theorem pv_ok {l c : List UInt8} (h : parseL l = .inr c) : parsedV l = .tuple #[.string ⟨c.toArray⟩, .int .i64 0, .int .i64 0] := by unfold parsedV; rw [h]
theorem pv_bad {l : List UInt8} {e n : Nat} (h : parseL l = .inl (e, n)) : parsedV l = .tuple #[.string ⟨#[]⟩, .int .i64 (e : Int), .int .i64 (n : Int)] := by unfold parsedV; rw [h]
set_option maxRecDepth 100000 in
set_option maxHeartbeats 32000000 in
theorem opcodeLines_any (W : World) (v : Value) (zs : List (Int × Int)) (hr : RawAt W v zs) (u : Value) (ys : List (Int × Int)) (hu : RawAt W u ys) :
    Calls Tryd.prog 7 #[v, u] W fun e w' => e = .returned (.bool true) ∧ Below W.heap.size W w' := by
  have HR := Lib.hid hr
  have HU := Lib.hid hu
  clear hr hu
  go_enter Tryd.func7, Tryd.ntmps7
  go_wp2_with fail
  refine (awake_any _).mono ?_
  rintro _ w1 ⟨rfl, q1⟩
  have HQ1 := Lib.hid q1
  clear q1
  go_wp2_with fail
  refine (code_any _ _ _ (HR.out.later HQ1.out)).mono ?_
  rintro _ w2 ⟨⟨a, rfl, hca, hla⟩, q2⟩
  have HQ2 := Lib.hid (HQ1.out.trans (q2.mono HQ1.out.size))
  have HCA := Lib.hid hca
  obtain ⟨A, hA⟩ : ∃ A : ByteArray, (⟨a.toArray⟩ : ByteArray) = A := ⟨_, rfl⟩
  have hAs : A.size ≤ 1320 := hA ▸ codeP_size hla
  have hAl : A.data.toList = a := by rw [← hA]
  rw [hA]
  have HA := Lib.hid (And.intro hAs hAl)
  clear q2 hca hla hA hAs hAl
  go_wp2_with fail
  refine (code_any _ _ _ (HU.out.later HQ2.out)).mono ?_
  rintro _ w3 ⟨⟨b, rfl, hcb, hlb⟩, q3⟩
  have HQ3 := Lib.hid (HQ2.out.trans (q3.mono HQ2.out.size))
  obtain ⟨B, hB⟩ : ∃ B : ByteArray, (⟨b.toArray⟩ : ByteArray) = B := ⟨_, rfl⟩
  have hBs : B.size ≤ 1320 := hB ▸ codeP_size hlb
  have hBl : B.data.toList = b := by rw [← hB]
  rw [hB]
  have HB := Lib.hid (And.intro hBs hBl)
  clear q3 hcb hlb hB hBs hBl
  go_wp2_with fail
  refine (text_code _ A (by have := HA.out.1; omega)).mono ?_
  rintro _ w4 ⟨rfl, q4⟩
  have HQ4 := Lib.hid (HQ3.out.trans (q4.mono HQ3.out.size))
  rw [HA.out.2]
  obtain ⟨S, hS⟩ : ∃ S : ByteArray, (⟨(textL a).toArray⟩ : ByteArray) = S := ⟨_, rfl⟩
  have hSl : S.data.toList = textL a := by rw [← hS]
  have hSs : S.size ≤ 24000 := by
    have h1 := text_len a
    have h2 : S.size = S.data.toList.length := by rw [Array.length_toList]; rfl
    have h3 : a.length = A.size := by rw [← HA.out.2, Array.length_toList]; rfl
    have h4 := HA.out.1
    rw [h2, hSl]; omega
  rw [hS]
  have HS := Lib.hid (And.intro hSs hSl)
  clear q4 hS hSs hSl
  go_wp2_with fail
  refine (text_code _ B (by have := HB.out.1; omega)).mono ?_
  rintro _ w5 ⟨rfl, q5⟩
  have HQ5 := Lib.hid (HQ4.out.trans (q5.mono HQ4.out.size))
  rw [HB.out.2]
  obtain ⟨T, hT⟩ : ∃ T : ByteArray, (⟨(textL b).toArray⟩ : ByteArray) = T := ⟨_, rfl⟩
  have hTl : T.data.toList = textL b := by rw [← hT]
  have hTs : T.size ≤ 24000 := by
    have h1 := text_len b
    have h2 : T.size = T.data.toList.length := by rw [Array.length_toList]; rfl
    have h3 : b.length = B.size := by rw [← HB.out.2, Array.length_toList]; rfl
    have h4 := HB.out.1
    rw [h2, hTl]; omega
  rw [hT]
  have HT := Lib.hid (And.intro hTs hTl)
  clear q5 hT hTs hTl
  obtain ⟨D, hD⟩ : ∃ D, S ++ T = D := ⟨_, rfl⟩
  obtain ⟨E, hE⟩ : ∃ E, A ++ B = E := ⟨_, rfl⟩
  obtain ⟨G, hG⟩ : ∃ G, S ++ ⟨#[87, 72, 65, 84, 10]⟩ = G := ⟨_, rfl⟩
  obtain ⟨H, hH⟩ : ∃ H, G ++ T = H := ⟨_, rfl⟩
  obtain ⟨M, hM⟩ : ∃ M, S ++ ⟨#[80, 85, 83, 72, 50, 32, 48, 120, 48, 49, 10]⟩ = M := ⟨_, rfl⟩
  obtain ⟨N, hN⟩ : ∃ N, M ++ T = N := ⟨_, rfl⟩
  obtain ⟨R, hR⟩ : ∃ R, N ++ ⟨#[83, 84, 79, 80]⟩ = R := ⟨_, rfl⟩
  have HL := Lib.hid (show (D.data.toList = textL a ++ textL b ∧ E.data.toList = a ++ b ∧ H.data.toList = textL a ++ ([87, 72, 65, 84] ++ 10 :: textL b) ∧ R.data.toList = textL a ++ ([80, 85, 83, 72, 50, 32, 48, 120, 48, 49] ++ 10 :: (textL b ++ [83, 84, 79, 80]))) from by
    refine ⟨by rw [← hD, bytes_app, HS.out.2, HT.out.2], by rw [← hE, bytes_app, HA.out.2, HB.out.2], by rw [← hH, ← hG, bytes_app, bytes_app, HS.out.2, HT.out.2]; simp, by rw [← hR, ← hN, ← hM, bytes_app, bytes_app, bytes_app, HS.out.2, HT.out.2]; simp⟩)
  have HZ := Lib.hid (show (D.size ≤ 48000 ∧ E.size ≤ 2640 ∧ G.size ≤ 24005 ∧ H.size ≤ 48005 ∧ M.size ≤ 24011 ∧ N.size ≤ 48011 ∧ R.size ≤ 48015) from by
    have h1 := HS.out.1
    have h2 := HT.out.1
    have h3 := HA.out.1
    have h4 := HB.out.1
    have eG : G.size = S.size + 5 := by rw [← hG, bytes_sum]; rfl
    have eM : M.size = S.size + 11 := by rw [← hM, bytes_sum]; rfl
    have eH : H.size = G.size + T.size := by rw [← hH, bytes_sum]
    have eN : N.size = M.size + T.size := by rw [← hN, bytes_sum]
    have eR : R.size = N.size + 4 := by rw [← hR, bytes_sum]; rfl
    have eD : D.size = S.size + T.size := by rw [← hD, bytes_sum]
    have eE : E.size = A.size + B.size := by rw [← hE, bytes_sum]
    omega)
  have s1 : S.size + T.size ≤ 48000 := by have := HS.out.1; have := HT.out.1; omega
  go_wp2_with fail
  refine (parse_code _ D (by have := HZ.out; omega)).mono ?_
  rintro _ w6 ⟨rfl, q6⟩
  have HQ6 := Lib.hid (HQ5.out.trans (q6.mono HQ5.out.size))
  clear q6
  rw [show parsedV D.data.toList = .tuple #[.string E, .int .i64 0, .int .i64 0] from by rw [HL.out.1, pv_ok (parse_both HCA.out b), ← bytes_eq HL.out.2.1]]
  obtain ⟨n, hn⟩ : ∃ n : Nat, (placesL a).length = n := ⟨_, rfl⟩
  have HN := Lib.hid (show S.data.toList.count 10 = n by rw [HS.out.2, count_text, hn])
  have HSL := Lib.hid (show S.data.toList.length = S.size by rw [Array.length_toList]; rfl)
  have s2 : (S.size : Int) ≤ 24000 := by have := HS.out.1; omega
  have HPN := Lib.hid hn
  clear hn
  go_wp2_with fail
  go_loopw [13, 14] (fun c i wr => ∃ k : Nat, c = .int .i64 (((S.data.toList.take k).count 10 : Nat) : Int) ∧ i = .int .i64 (k : Int) ∧ k ≤ S.size ∧ Below W.heap.size W wr) (fun _ i _ => S.size - (intOf i).toNat)
  case atStart => exact ⟨0, rfl, rfl, Nat.zero_le _, HQ6.out⟩
  case round =>
    obtain ⟨k, rfl, rfl, hk, hq⟩ := hrel
    have HQ := Lib.hid hq
    have k0 : (0 : Int) ≤ (k : Int) := by omega
    have k1 : (k : Int) ≤ 24000 := by omega
    clear hq
    obtain ⟨m, hm⟩ : ∃ m, (S.data.toList.take k).count 10 = m := ⟨_, rfl⟩
    have hm9 : m ≤ 24000 := by
      have := List.count_le_length (a := (10 : UInt8)) (l := S.data.toList.take k)
      rw [List.length_take] at this
      omega
    have m0 : (0 : Int) ≤ (m : Int) := by omega
    have m1 : (m : Int) ≤ 24000 := by omega
    rw [hm]
    by_cases hlt : k < S.size
    · have hltI : (k : Int) < (S.size : Int) := by omega
      have hstep := take_countL S.data.toList k (by rw [HSL.out]; exact hlt)
      rw [hm, show S.data.toList[k]'(by rw [HSL.out]; exact hlt) = S[k] from rfl] at hstep
      have HST := Lib.hid hstep
      have HLT := Lib.hid hlt
      clear hstep hm hm9 hk
      by_cases e : S[k] = 10
      · have eI : (S[k].toNat : Int) = 10 := by rw [e]; rfl
        have HE := Lib.hid e
        clear e
        go_wp2_with fail
        go_roundw
        case rel => exact ⟨k + 1, by rw [HST.out]; split; (· simp); (· rename_i h; exact absurd HE.out h), by simp, HLT.out, HQ.out⟩
        case measure => have := HLT.out; simp [intOf]; omega
      · have eI : ¬ (S[k].toNat : Int) = 10 := fun h => e (UInt8.toNat_inj.1 (by show S[k].toNat = 10; omega))
        have HE := Lib.hid e
        clear e
        go_wp2_with fail
        go_roundw
        case rel => exact ⟨k + 1, by rw [HST.out]; split; (· rename_i h; exact absurd h HE.out); (· simp), by simp, HLT.out, HQ.out⟩
        case measure => have := HLT.out; simp [intOf]; omega
    · have hge : ¬ (k : Int) < (S.size : Int) := by omega
      have hmn : m = n := by rw [← hm, List.take_of_length_le (by rw [HSL.out]; omega)]; exact HN.out
      subst hmn
      clear hlt hk hm hm9
      have s4 : G.size + T.size ≤ 48005 := by
        have e : G.size = S.size + 5 := by rw [← hG, bytes_sum]; rfl
        have := HT.out.1
        have := HS.out.1
        omega
      have s5 : M.size + T.size ≤ 48011 := by
        have e : M.size = S.size + 11 := by rw [← hM, bytes_sum]; rfl
        have := HT.out.1
        have := HS.out.1
        omega
      have s6 : N.size + 4 ≤ 48015 := by have := HZ.out; omega
      have s7 : S.size ≤ 24000 := HS.out.1
      go_wp2_with fail
      refine (parse_code _ H (by have := HZ.out; omega)).mono ?_
      rintro _ w7 ⟨rfl, q7⟩
      have HQ7 := Lib.hid (HQ.out.trans (q7.mono HQ.out.size))
      clear q7
      rw [show parsedV H.data.toList = .tuple #[.string ⟨#[]⟩, .int .i64 42, .int .i64 (m : Int)] from by rw [HL.out.2.2.1, pv_bad (parse_what HCA.out _), HPN.out]; rfl]
      go_wp2_with fail
      refine (parse_code _ R (by have := HZ.out; omega)).mono ?_
      rintro _ w8 ⟨rfl, q8⟩
      have HQ8 := Lib.hid (HQ7.out.trans (q8.mono HQ7.out.size))
      clear q8
      rw [show parsedV R.data.toList = .tuple #[.string ⟨#[]⟩, .int .i64 3, .int .i64 (m : Int)] from by rw [HL.out.2.2.2, pv_bad (parse_push2 HCA.out (by simp)), HPN.out]; rfl]
      have hEE : (E.toList == E.toList) = true := by simp
      have hDD : (D.toList == D.toList) = true := by simp
      have s3 : A.size + B.size ≤ 2640 := by have := HA.out.1; have := HB.out.1; omega
      go_wp2_with fail
      refine (text_code _ E (by have := HZ.out; omega)).mono ?_
      rintro _ w9 ⟨rfl, q9⟩
      have HQ9 := Lib.hid (HQ8.out.trans (q9.mono HQ8.out.size))
      clear q9
      rw [HL.out.2.1, text_app HCA.out, ← bytes_eq HL.out.1]
      go_wp2_with fail
      go_ret
      exact ⟨rfl, HQ9.out⟩
end
end Go.Proofs.YthcmfadofogfaaaDoor
