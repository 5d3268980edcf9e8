/- Part. -/
import Derived.Test.YthcmfadofogfaaaDoorG11
import Derived.Test.YthcmfadofogfaaaDoorG10
set_option maxRecDepth 100000
set_option maxHeartbeats 16000000
namespace Go.Proofs.YthcmfadofogfaaaDoor
open Go Go.RowKit Go.Maps
attribute [local go_sem] Oper.semAt_some Grows wide_fn
theorem text_lenF (c : List UInt8) : ∀ (f p : Nat), ((placesF c f p).flatMap (lineL c)).length ≤ 18 * (c.length - p)
 | 0, p => by simp [placesF]
 | f + 1, p => by
  unfold placesF
  by_cases hp : p < c.length
  ·rw [if_pos hp, List.flatMap_cons, List.length_append]
   have h0 := text_lenF c f (nextP c p)
   have h1 := title_len _ (byteAt_lt c p)
   have h2 := behind_len c p (pushN (byteAt c p))
   have h4 : (lineL c p).length ≤ 18 * (1 + (behindL c p (pushN (byteAt c p))).length) := by
    unfold lineL
    rw [List.length_append, List.length_append]
    split
    ·rw [List.length_cons, hexO_len]; simp; omega
    ·simp; omega
   unfold nextP at h0 ⊢
   omega
  ·rw [if_neg hp]; simp
theorem text_len (c : List UInt8) : (textL c).length ≤ 18 * c.length := by
 have := text_lenF c c.length 0
 unfold textL placesL
 omega
theorem bytes_again (y : ByteArray) : (⟨y.data.toList.toArray⟩ : ByteArray) = y := by
 apply ByteArray.ext
 apply Array.ext'
 simp
theorem run_cutS0 (w : World) (x : ByteArray) (X Q : Nat) (hX : (x.size : Int) = (X : Int)) (h2 : (Q : Int) ≤ (X : Int)) : (Instr.slice 9 (.string x) none (some (.int .i64 (Q : Int))) none).run Tryd.prog w = .ok (.string (x.extract 0 Q)) w := by
 have hu := Tryd.underlying9
 have h3 : Q ≤ x.size := by omega
 simp [Instr.slice, Instr.sliceBounds, Instr.sliceBound, asIntOf, h3, go_sem]
theorem codeP_size {l : List UInt8} (h : l.length ≤ 1320) : (⟨l.toArray⟩ : ByteArray).size ≤ 1320 := by show l.toArray.size ≤ 1320; rw [List.size_toArray]; exact h
theorem opcodeBack_short (W : World) (s : ByteArray) (x : ByteArray) (hx : ((s.size : Int) ≤ 300 ∧ x = s) ∨ ((300 : Int) < (s.size : Int) ∧ x = s.extract 0 300)) (hxs : x.size ≤ 300) (v : Value) (zs : List (Int × Int)) (hr : RawAt W v zs) (at_ : Int) (ha : I64 at_) :
  Calls Tryd.prog 4 #[.string s, v, .int .i64 at_] W fun e w' => e = .returned (.bool true) ∧ Below W.heap.size W w' := by
 have HR := hid hr
 have HA := hid ha
 have HX := hid hxs
 clear hr ha hxs
 rcases hx with ⟨hs, rfl⟩ | ⟨hs, hxe⟩
 ·go_enter Tryd.func4, Tryd.ntmps4
  go_wp2_with fail
  refine (awake_any _).mono ?_
  rintro _ w1 ⟨rfl, q1⟩
  have HQ1 := hid q1
  have HR1 := hid (HR.out.later q1)
  clear q1
  go_wp2_with fail
  refine (code_any _ _ _ HR1.out).mono ?_
  rintro _ w2 ⟨⟨l, rfl, hcp, hl⟩, q2⟩
  have HQ2 := hid (HQ1.out.trans (q2.mono HQ1.out.size))
  clear q2 HR1
  obtain ⟨c, hc⟩ : ∃ c : ByteArray, (⟨l.toArray⟩ : ByteArray) = c := ⟨_, rfl⟩
  have hcs : c.size ≤ 1320 := hc ▸ codeP_size hl
  rw [hc]
  have HCS := hid hcs
  obtain ⟨C, hC⟩ : ∃ C : Nat, c.size = C := ⟨_, rfl⟩
  have hCI : (c.size : Int) = (C : Int) := by omega
  have C0 : (0 : Int) ≤ (C : Int) := by omega
  have C1 : (C : Int) ≤ 1320 := by omega
  have PK := hid (pick_ret at_ HA.out ((C : Int) + 1) (by omega) (by omega))
  obtain ⟨K, hK, hK1⟩ := pick_u8 at_ ((C : Int) + 1) (by omega)
  rw [hK] at PK
  have K0 : (0 : Int) ≤ (K : Int) := by omega
  have K1 : (K : Int) ≤ (C : Int) := by omega
  clear hcp hl hc hcs hK hK1
  go_wp2_with fail
  refine (PK.out _).mono ?_
  rintro _ w3 ⟨rfl, q3⟩
  have HQ3 := hid (HQ2.out.trans (q3.mono HQ2.out.size))
  clear q3
  have hcut := run_cutS0 w3 c C K hCI K1
  obtain ⟨d, hd⟩ : ∃ d, c.extract 0 K = d := ⟨_, rfl⟩
  rw [hd] at hcut
  have HD := hid (show d.size ≤ 1320 by rw [← hd, ByteArray.size_extract]; have := HCS.out; omega)
  clear hd
  obtain ⟨w4, hw4⟩ : ∃ w4, w3.alloc (.cells #[.string x, .string c, .string d] tSt) = w4 := ⟨_, rfl⟩
  have q4 : Below w3.heap.size w3 w4 := hw4 ▸ (Below.refl _ w3).alloc (Nat.le_refl _) _
  have n4 : Has w4 w3.heap.size tSt #[.string x, .string c, .string d] := hw4 ▸ Has.new _ _ _
  have HQ4 := hid (HQ3.out.trans (q4.mono HQ3.out.size))
  have HN4 := hid n4
  have HW4 := hid hw4
  obtain ⟨B, hB⟩ : ∃ B, w3.heap.size = B := ⟨_, rfl⟩
  rw [hB] at HN4
  unfold tSt at hw4
  clear q4 n4
  go_wp2_with fail
  clear hw4 hB hcut
  go_loopw [35] (fun i wr => (i = .int .i64 0 ∨ i = .int .i64 1 ∨ i = .int .i64 2 ∨ i = .int .i64 3) ∧ Has wr B tSt #[.string x, .string c, .string d] ∧ Below W.heap.size W wr) (fun i _ => 3 - (intOf i).toNat)
  case atStart => exact ⟨.inl rfl, HN4.out, HQ4.out⟩
  case round =>
   obtain ⟨hk, hn, hq⟩ := hrel
   have HN := hid hn
   have HQ := hid hq
   clear hn hq
   rcases hk with rfl | rfl | rfl | rfl
   ·have c0 := HN.out.cell 0 _ rfl
    have hst : (x.toList == x.toList) = true := by simp
    have HL := hid (show (⟨(textL x.data.toList).toArray⟩ : ByteArray).size ≤ 100000 by
     show (textL x.data.toList).toArray.size ≤ _
     have h := text_len x.data.toList
     rw [List.size_toArray]
     have h2 : x.data.toList.length = x.size := by rw [Array.length_toList]; rfl
     have h3 := HX.out
     omega)
    go_wp2_with fail
    refine (text_code _ x (by have := HX.out; omega)).mono ?_
    rintro _ w5 ⟨rfl, q5⟩
    have HN5 := hid (HN.out.later q5)
    have HQ5 := hid (HQ.out.trans (q5.mono HQ.out.size))
    clear q5 c0
    obtain ⟨tt, htt⟩ : ∃ tt : ByteArray, (⟨(textL x.data.toList).toArray⟩ : ByteArray) = tt := ⟨_, rfl⟩
    rw [htt] at HL ⊢
    have HT := hid (show tt.data.toList = textL x.data.toList by rw [← htt])
    clear htt
    go_wp2_with fail
    refine (parse_code _ tt HL.out).mono ?_
    rintro _ w6 ⟨rfl, q6⟩
    have HN6 := hid (HN5.out.later q6)
    have HQ6 := hid (HQ5.out.trans (q6.mono HQ5.out.size))
    clear q6
    rw [HT.out, parsed_text, bytes_again]
    go_wp2_with fail
    go_roundw
    case rel => exact ⟨.inr (.inl rfl), HN6.out, HQ6.out⟩
    case measure => simp [intOf]
   ·have c0 := HN.out.cell 1 _ rfl
    have hst : (c.toList == c.toList) = true := by simp
    have HL := hid (show (⟨(textL c.data.toList).toArray⟩ : ByteArray).size ≤ 100000 by
     show (textL c.data.toList).toArray.size ≤ _
     have h := text_len c.data.toList
     rw [List.size_toArray]
     have h2 : c.data.toList.length = c.size := by rw [Array.length_toList]; rfl
     have h3 := HCS.out
     omega)
    go_wp2_with fail
    refine (text_code _ c (by have := HCS.out; omega)).mono ?_
    rintro _ w5 ⟨rfl, q5⟩
    have HN5 := hid (HN.out.later q5)
    have HQ5 := hid (HQ.out.trans (q5.mono HQ.out.size))
    clear q5 c0
    obtain ⟨tt, htt⟩ : ∃ tt : ByteArray, (⟨(textL c.data.toList).toArray⟩ : ByteArray) = tt := ⟨_, rfl⟩
    rw [htt] at HL ⊢
    have HT := hid (show tt.data.toList = textL c.data.toList by rw [← htt])
    clear htt
    go_wp2_with fail
    refine (parse_code _ tt HL.out).mono ?_
    rintro _ w6 ⟨rfl, q6⟩
    have HN6 := hid (HN5.out.later q6)
    have HQ6 := hid (HQ5.out.trans (q6.mono HQ5.out.size))
    clear q6
    rw [HT.out, parsed_text, bytes_again]
    go_wp2_with fail
    go_roundw
    case rel => exact ⟨.inr (.inr (.inl rfl)), HN6.out, HQ6.out⟩
    case measure => simp [intOf]
   ·have c0 := HN.out.cell 2 _ rfl
    have hst : (d.toList == d.toList) = true := by simp
    have HL := hid (show (⟨(textL d.data.toList).toArray⟩ : ByteArray).size ≤ 100000 by
     show (textL d.data.toList).toArray.size ≤ _
     have h := text_len d.data.toList
     rw [List.size_toArray]
     have h2 : d.data.toList.length = d.size := by rw [Array.length_toList]; rfl
     have h3 := HD.out
     omega)
    go_wp2_with fail
    refine (text_code _ d (by have := HD.out; omega)).mono ?_
    rintro _ w5 ⟨rfl, q5⟩
    have HN5 := hid (HN.out.later q5)
    have HQ5 := hid (HQ.out.trans (q5.mono HQ.out.size))
    clear q5 c0
    obtain ⟨tt, htt⟩ : ∃ tt : ByteArray, (⟨(textL d.data.toList).toArray⟩ : ByteArray) = tt := ⟨_, rfl⟩
    rw [htt] at HL ⊢
    have HT := hid (show tt.data.toList = textL d.data.toList by rw [← htt])
    clear htt
    go_wp2_with fail
    refine (parse_code _ tt HL.out).mono ?_
    rintro _ w6 ⟨rfl, q6⟩
    have HN6 := hid (HN5.out.later q6)
    have HQ6 := hid (HQ5.out.trans (q6.mono HQ5.out.size))
    clear q6
    rw [HT.out, parsed_text, bytes_again]
    go_wp2_with fail
    go_roundw
    case rel => exact ⟨.inr (.inr (.inr rfl)), HN6.out, HQ6.out⟩
    case measure => simp [intOf]
   ·go_wp2_with fail
    go_ret
    exact ⟨rfl, HQ.out⟩
 ·have hxe2 := hxe.symm
  clear hxe
  go_enter Tryd.func4, Tryd.ntmps4
  go_wp2_with fail
  refine (awake_any _).mono ?_
  rintro _ w1 ⟨rfl, q1⟩
  have HQ1 := hid q1
  have HR1 := hid (HR.out.later q1)
  clear q1
  go_wp2_with fail
  refine (code_any _ _ _ HR1.out).mono ?_
  rintro _ w2 ⟨⟨l, rfl, hcp, hl⟩, q2⟩
  have HQ2 := hid (HQ1.out.trans (q2.mono HQ1.out.size))
  clear q2 HR1
  obtain ⟨c, hc⟩ : ∃ c : ByteArray, (⟨l.toArray⟩ : ByteArray) = c := ⟨_, rfl⟩
  have hcs : c.size ≤ 1320 := hc ▸ codeP_size hl
  rw [hc]
  have HCS := hid hcs
  obtain ⟨C, hC⟩ : ∃ C : Nat, c.size = C := ⟨_, rfl⟩
  have hCI : (c.size : Int) = (C : Int) := by omega
  have C0 : (0 : Int) ≤ (C : Int) := by omega
  have C1 : (C : Int) ≤ 1320 := by omega
  have PK := hid (pick_ret at_ HA.out ((C : Int) + 1) (by omega) (by omega))
  obtain ⟨K, hK, hK1⟩ := pick_u8 at_ ((C : Int) + 1) (by omega)
  rw [hK] at PK
  have K0 : (0 : Int) ≤ (K : Int) := by omega
  have K1 : (K : Int) ≤ (C : Int) := by omega
  clear hcp hl hc hcs hK hK1
  go_wp2_with fail
  refine (PK.out _).mono ?_
  rintro _ w3 ⟨rfl, q3⟩
  have HQ3 := hid (HQ2.out.trans (q3.mono HQ2.out.size))
  clear q3
  have hcut := run_cutS0 w3 c C K hCI K1
  obtain ⟨d, hd⟩ : ∃ d, c.extract 0 K = d := ⟨_, rfl⟩
  rw [hd] at hcut
  have HD := hid (show d.size ≤ 1320 by rw [← hd, ByteArray.size_extract]; have := HCS.out; omega)
  clear hd
  obtain ⟨w4, hw4⟩ : ∃ w4, w3.alloc (.cells #[.string x, .string c, .string d] tSt) = w4 := ⟨_, rfl⟩
  have q4 : Below w3.heap.size w3 w4 := hw4 ▸ (Below.refl _ w3).alloc (Nat.le_refl _) _
  have n4 : Has w4 w3.heap.size tSt #[.string x, .string c, .string d] := hw4 ▸ Has.new _ _ _
  have HQ4 := hid (HQ3.out.trans (q4.mono HQ3.out.size))
  have HN4 := hid n4
  have HW4 := hid hw4
  obtain ⟨B, hB⟩ : ∃ B, w3.heap.size = B := ⟨_, rfl⟩
  rw [hB] at HN4
  unfold tSt at hw4
  clear q4 n4
  go_wp2_with fail
  clear hw4 hB hcut
  go_loopw [35] (fun i wr => (i = .int .i64 0 ∨ i = .int .i64 1 ∨ i = .int .i64 2 ∨ i = .int .i64 3) ∧ Has wr B tSt #[.string x, .string c, .string d] ∧ Below W.heap.size W wr) (fun i _ => 3 - (intOf i).toNat)
  case atStart => exact ⟨.inl rfl, HN4.out, HQ4.out⟩
  case round =>
   obtain ⟨hk, hn, hq⟩ := hrel
   have HN := hid hn
   have HQ := hid hq
   clear hn hq
   rcases hk with rfl | rfl | rfl | rfl
   ·have c0 := HN.out.cell 0 _ rfl
    have hst : (x.toList == x.toList) = true := by simp
    have HL := hid (show (⟨(textL x.data.toList).toArray⟩ : ByteArray).size ≤ 100000 by
     show (textL x.data.toList).toArray.size ≤ _
     have h := text_len x.data.toList
     rw [List.size_toArray]
     have h2 : x.data.toList.length = x.size := by rw [Array.length_toList]; rfl
     have h3 := HX.out
     omega)
    go_wp2_with fail
    refine (text_code _ x (by have := HX.out; omega)).mono ?_
    rintro _ w5 ⟨rfl, q5⟩
    have HN5 := hid (HN.out.later q5)
    have HQ5 := hid (HQ.out.trans (q5.mono HQ.out.size))
    clear q5 c0
    obtain ⟨tt, htt⟩ : ∃ tt : ByteArray, (⟨(textL x.data.toList).toArray⟩ : ByteArray) = tt := ⟨_, rfl⟩
    rw [htt] at HL ⊢
    have HT := hid (show tt.data.toList = textL x.data.toList by rw [← htt])
    clear htt
    go_wp2_with fail
    refine (parse_code _ tt HL.out).mono ?_
    rintro _ w6 ⟨rfl, q6⟩
    have HN6 := hid (HN5.out.later q6)
    have HQ6 := hid (HQ5.out.trans (q6.mono HQ5.out.size))
    clear q6
    rw [HT.out, parsed_text, bytes_again]
    go_wp2_with fail
    go_roundw
    case rel => exact ⟨.inr (.inl rfl), HN6.out, HQ6.out⟩
    case measure => simp [intOf]
   ·have c0 := HN.out.cell 1 _ rfl
    have hst : (c.toList == c.toList) = true := by simp
    have HL := hid (show (⟨(textL c.data.toList).toArray⟩ : ByteArray).size ≤ 100000 by
     show (textL c.data.toList).toArray.size ≤ _
     have h := text_len c.data.toList
     rw [List.size_toArray]
     have h2 : c.data.toList.length = c.size := by rw [Array.length_toList]; rfl
     have h3 := HCS.out
     omega)
    go_wp2_with fail
    refine (text_code _ c (by have := HCS.out; omega)).mono ?_
    rintro _ w5 ⟨rfl, q5⟩
    have HN5 := hid (HN.out.later q5)
    have HQ5 := hid (HQ.out.trans (q5.mono HQ.out.size))
    clear q5 c0
    obtain ⟨tt, htt⟩ : ∃ tt : ByteArray, (⟨(textL c.data.toList).toArray⟩ : ByteArray) = tt := ⟨_, rfl⟩
    rw [htt] at HL ⊢
    have HT := hid (show tt.data.toList = textL c.data.toList by rw [← htt])
    clear htt
    go_wp2_with fail
    refine (parse_code _ tt HL.out).mono ?_
    rintro _ w6 ⟨rfl, q6⟩
    have HN6 := hid (HN5.out.later q6)
    have HQ6 := hid (HQ5.out.trans (q6.mono HQ5.out.size))
    clear q6
    rw [HT.out, parsed_text, bytes_again]
    go_wp2_with fail
    go_roundw
    case rel => exact ⟨.inr (.inr (.inl rfl)), HN6.out, HQ6.out⟩
    case measure => simp [intOf]
   ·have c0 := HN.out.cell 2 _ rfl
    have hst : (d.toList == d.toList) = true := by simp
    have HL := hid (show (⟨(textL d.data.toList).toArray⟩ : ByteArray).size ≤ 100000 by
     show (textL d.data.toList).toArray.size ≤ _
     have h := text_len d.data.toList
     rw [List.size_toArray]
     have h2 : d.data.toList.length = d.size := by rw [Array.length_toList]; rfl
     have h3 := HD.out
     omega)
    go_wp2_with fail
    refine (text_code _ d (by have := HD.out; omega)).mono ?_
    rintro _ w5 ⟨rfl, q5⟩
    have HN5 := hid (HN.out.later q5)
    have HQ5 := hid (HQ.out.trans (q5.mono HQ.out.size))
    clear q5 c0
    obtain ⟨tt, htt⟩ : ∃ tt : ByteArray, (⟨(textL d.data.toList).toArray⟩ : ByteArray) = tt := ⟨_, rfl⟩
    rw [htt] at HL ⊢
    have HT := hid (show tt.data.toList = textL d.data.toList by rw [← htt])
    clear htt
    go_wp2_with fail
    refine (parse_code _ tt HL.out).mono ?_
    rintro _ w6 ⟨rfl, q6⟩
    have HN6 := hid (HN5.out.later q6)
    have HQ6 := hid (HQ5.out.trans (q6.mono HQ5.out.size))
    clear q6
    rw [HT.out, parsed_text, bytes_again]
    go_wp2_with fail
    go_roundw
    case rel => exact ⟨.inr (.inr (.inr rfl)), HN6.out, HQ6.out⟩
    case measure => simp [intOf]
   ·go_wp2_with fail
    go_ret
    exact ⟨rfl, HQ.out⟩
theorem opcodeBack_any (W : World) (s : ByteArray) (_hs : s.size ≤ 140737488355328) (v : Value) (zs : List (Int × Int)) (hr : RawAt W v zs) (at_ : Int) (ha : I64 at_) :
  Calls Tryd.prog 4 #[.string s, v, .int .i64 at_] W fun e w' => e = .returned (.bool true) ∧ Below W.heap.size W w' := by
 by_cases h : s.size ≤ 300
 ·exact opcodeBack_short W s s (.inl ⟨by omega, rfl⟩) h v zs hr at_ ha
 ·exact opcodeBack_short W s (s.extract 0 300) (.inr ⟨by omega, rfl⟩) (by rw [ByteArray.size_extract]; omega) v zs hr at_ ha
end Go.Proofs.YthcmfadofogfaaaDoor
