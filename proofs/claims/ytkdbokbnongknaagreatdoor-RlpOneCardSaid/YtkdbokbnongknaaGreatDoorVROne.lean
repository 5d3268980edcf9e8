import Derived.Test.YtkdbokbnongknaaGreatDoorU24
import Derived.Test.YtkdbokbnongknaaGreatDoorU25
/- RlpOne: the law answers true. Conditions: the raw numbers lie in memory; a table of the library. -/
namespace Go.Proofs.YtkdbokbnongknaaGreatDoor
open Go Go.RowKit
attribute [local go_sem] Oper.semAt_some Grows wide_fn

theorem decR_no {s : ByteArray} {x p : Nat} (h : decR s = .no x p) : p ≤ s.size ∧ x ≠ 0 := by
  unfold decR at h
  split at h
  · injection h with e1 e2; subst e1 e2; exact ⟨by omega, by omega⟩
  · unfold rdTop rdI at h
    rcases hr : rdItem 5000 s.data.toList 16 s.size 0 0 with ⟨t, a, m⟩ | ⟨x', p'⟩
    · rw [hr] at h
      unfold topR at h
      simp only at h
      split at h
      · injection h with e1 e2; subst e1 e2; exact ⟨by omega, by omega⟩
      · cases h
    · rw [hr] at h
      injection h with e1 e2
      subst e1 e2
      have := rdItem_no 5000 s.data.toList 16 s.size 0 0 x' p' (by rw [← Lib.size_eq]; exact Nat.le_refl _) (by omega) hr
      exact ⟨this.2.1, this.2.2⟩
theorem decR_ok {s : ByteArray} {t : It} {a m : Nat} (h : decR s = .ok t a m) : okI t = true ∧ (⟨(encI t).toArray⟩ : ByteArray) = s ∧ s.size ≤ 1048576 ∧ countI t ≤ 5000 ∧ (encI t).length ≤ 1048576 := by
  unfold decR at h
  split at h
  · cases h
  · rename_i hs
    unfold rdTop rdI at h
    rcases hr : rdItem 5000 s.data.toList 16 s.size 0 0 with ⟨t', a', m'⟩ | ⟨x', p'⟩
    · rw [hr] at h
      unfold topR at h
      simp only at h
      split at h
      · cases h
      · rename_i ha
        injection h with e1 e2 e3
        subst e1 e2 e3
        obtain ⟨g1, g2, g3, g4, g5, g6⟩ := rdItem_ok 5000 s.data.toList 16 s.size 0 0 t' a' m' (by rw [← Lib.size_eq]; exact Nat.le_refl _) hr
        have hae : a' = s.size := by omega
        have he : encI t' = s.data.toList := by
          rw [← g3, hae]
          unfold sl
          rw [List.drop_zero, Nat.sub_zero, List.take_of_length_le (by rw [← Lib.size_eq]; exact Nat.le_refl _)]
        refine ⟨?_, ?_, by omega, by omega, by rw [he, ← Lib.size_eq]; omega⟩
        · unfold okI
          rw [(rightB_iff 16 t').2 g6, decide_eq_true (by omega : countI t' ≤ 5000)]
          rfl
        · rw [he]
    · rw [hr] at h
      cases h
theorem refEnc_good (t : It) (ho : okI t = true) (hl : (encI t).length ≤ 1048576) (v : Value) (w : World) (ht : ItemAt w t v) :
    Calls Tryz.prog 14 #[v] w fun e w' => e = .returned (.tuple #[.string ⟨(encI t).toArray⟩, .int .i64 0]) ∧ Below w.heap.size w w' := by
  have h := refEncode_any t (by omega) v w ht
  have e1 := encE_good ho hl
  rw [encS_good e1, e1] at h
  exact h

set_option maxRecDepth 100000 in
set_option maxHeartbeats 8000000 in
theorem one_ret (w : World) (hT : TabE w) (s : ByteArray) (hs : s.size ≤ 140737488355328) (v : Value) (zs : List (Int × Int)) (hr : RawAt w v zs) (c : Int) (hc : I64 c) (more : ByteArray) (hsz : more.size ≤ 140737488355328) :
    Calls Tryz.prog 4 #[.string s, v, .int .i64 c, .string more] w fun e w' => e = .returned (.bool true) ∧ Below w.heap.size w w' := by
  have hmx : Tryz.prog.follows .mixedOrders = true := by kernel_rfl
  have HR := Lib.hid hr
  have HT := Lib.hid hT
  have HCI := Lib.hid hc
  obtain ⟨r, hr1, hr2⟩ : ∃ r : ByteArray, r.size ≤ 9 ∧ (more.size ≤ 9 → more.extract 0 more.size = r) ∧ (9 < more.size → more.extract 0 9 = r) := by
    rcases Nat.lt_or_ge 9 more.size with h | h
    · exact ⟨_, by rw [ByteArray.size_extract]; omega, fun h' => by omega, fun _ => rfl⟩
    · exact ⟨_, by rw [ByteArray.size_extract]; omega, fun _ => rfl, fun h' => by omega⟩
  obtain ⟨xB, hx1, hx2⟩ : ∃ xB : ByteArray, xB.size ≤ 400 ∧ (s.size ≤ 400 → s = xB) ∧ (400 < s.size → s.extract 0 400 = xB) := by
    rcases Nat.lt_or_ge 400 s.size with h | h
    · exact ⟨_, by rw [ByteArray.size_extract]; omega, fun h' => by omega, fun _ => rfl⟩
    · exact ⟨s, h, fun _ => rfl, fun h' => by omega⟩
  have HR1 := Lib.hid hr1
  have HR2 := Lib.hid hr2
  have HX1 := Lib.hid hx1
  have h400 : ((s.size : Nat) : Int) ≤ 400 ∧ xB = s ∨ ¬ ((s.size : Nat) : Int) ≤ 400 ∧ s.extract 0 400 = xB := by
    rcases Nat.lt_or_ge 400 s.size with h | h
    · exact .inr ⟨by omega, hx2.2 h⟩
    · exact .inl ⟨by omega, (hx2.1 h).symm⟩
  have h9 : ((more.size : Nat) : Int) ≤ 9 ∧ more.extract 0 more.size = r ∨ ¬ ((more.size : Nat) : Int) ≤ 9 ∧ more.extract 0 9 = r := by
    rcases Nat.lt_or_ge 9 more.size with h | h
    · exact .inr ⟨by omega, hr2.2 h⟩
    · exact .inl ⟨by omega, hr2.1 h⟩
  clear hr hT hs hsz hc hr1 hr2 hx1 hx2
  rcases h400 with ⟨h4, rfl⟩ | ⟨h4, h4e⟩ <;> rcases h9 with ⟨h9, h9e⟩ | ⟨h9, h9e⟩
  all_goals (
    go_enter Tryz.func4, Tryz.ntmps4
    go_wp2_with fail
    refine (awake_any _ HT.out).mono ?_
    rintro _ W1 ⟨rfl, q1⟩
    replace HR := Lib.hid (HR.out.later q1)
    replace HT := Lib.hid (HT.out.later q1)
    have Q := Lib.hid q1
    clear q1
    go_wp2_with fail
    refine (raw_good 3 (by decide) v zs W1 HR.out).mono ?_
    rintro _ W2 ⟨t, u, rfl, hi, ⟨ho, _, hcn, hl⟩, q2⟩
    replace HT := Lib.hid (HT.out.later q2)
    replace Q := Lib.hid (Q.out.trans (q2.mono Q.out.size))
    have HE := Lib.hid (refEnc_good t ho (by omega) u W2 hi.at)
    obtain ⟨tB, htB⟩ : ∃ tB : ByteArray, (⟨(encI t).toArray⟩ : ByteArray) = tB := ⟨_, rfl⟩
    have hts : tB.size ≤ 40448 := by rw [← htB, sizeM]; exact hl
    rw [htB] at HE
    have Hts := Lib.hid hts
    clear q2 hi HR hcn ho htB hl
    go_wp2_with fail
    refine HE.out.mono ?_
    rintro _ W3 ⟨rfl, q3⟩
    replace HT := Lib.hid (HT.out.later q3)
    replace Q := Lib.hid (Q.out.trans (q3.mono Q.out.size))
    obtain ⟨k, hk, hk2⟩ : ∃ k : Nat, pickN c (((tB.size : Nat) : Int) + 1) = (k : Int) ∧ k ≤ tB.size := ⟨(pickN c (((tB.size : Nat) : Int) + 1)).toNat, by have := pickN_range c (((tB.size : Nat) : Int) + 1) (by omega); omega, by have := pickN_range c (((tB.size : Nat) : Int) + 1) (by omega); omega⟩
    have HP0 := pick_ret c HCI.out (((tB.size : Nat) : Int) + 1) (by omega) (by omega)
    rw [hk] at HP0
    have HP := Lib.hid HP0
    have HK := Lib.hid hk2
    have htI : ((tB.size : Nat) : Int) ≤ 40448 := by omega
    clear q3 HE HP0 hk hk2 hts
    go_wp2_with fail
    refine (HP.out _).mono ?_
    rintro _ Wd ⟨rfl, q4⟩
    replace HT := Lib.hid (HT.out.later q4)
    replace Q := Lib.hid (Q.out.trans (q4.mono Q.out.size))
    clear q4 HP
    have hkI : (k : Int) ≤ ((tB.size : Nat) : Int) := by have := HK.out; omega
    have hkt : k ≤ tB.size := HK.out
    have hk0 : (0 : Int) ≤ (k : Int) := by omega
    obtain ⟨pB, hpB⟩ : ∃ pB, tB.extract 0 k = pB := ⟨_, rfl⟩
    obtain ⟨qB, hqB⟩ : ∃ qB, tB.extract k tB.size = qB := ⟨_, rfl⟩
    have hps : pB.size ≤ 40448 := by rw [← hpB, ByteArray.size_extract]; have := Hts.out; omega
    have hqs : qB.size ≤ 40448 := by rw [← hqB, ByteArray.size_extract]; have := Hts.out; omega
    obtain ⟨kr, hkr⟩ : ∃ kr : Nat, (k : Int) + ((r.size : Nat) : Int) = (kr : Int) := ⟨k + r.size, by omega⟩
    obtain ⟨eB, heB, hes⟩ : ∃ eB : ByteArray, ((kr : Int) ≤ ((tB.size : Nat) : Int) ∧ tB.extract kr tB.size = eB ∨ ¬ (kr : Int) ≤ ((tB.size : Nat) : Int) ∧ tB.extract tB.size tB.size = eB) ∧ eB.size ≤ 40448 := by
      rcases Nat.lt_or_ge tB.size kr with h | h
      · exact ⟨_, .inr ⟨by omega, rfl⟩, by rw [ByteArray.size_extract]; have := Hts.out; omega⟩
      · exact ⟨_, .inl ⟨by omega, rfl⟩, by rw [ByteArray.size_extract]; have := Hts.out; omega⟩
    have hr9 := HR1.out
    have n1 : ¬ 9223372036854775807 < pB.size + r.size := by omega
    have n2 : ¬ 9223372036854775807 < pB.size + r.size + qB.size := by omega
    have n3 : ¬ 9223372036854775807 < pB.size + r.size + eB.size := by omega
    have hrI : ((r.size : Nat) : Int) ≤ 9 := by omega
    have hr0 : (0 : Int) ≤ ((r.size : Nat) : Int) := by omega
    have hkr0 : (0 : Int) ≤ (kr : Int) := by omega
    have hkrI : (kr : Int) ≤ 40457 := by omega
    have HY1 := Lib.hid (show (pB ++ r ++ qB).size ≤ 100000 by rw [ByteArray.size_append, ByteArray.size_append]; omega)
    have HY2 := Lib.hid (show (pB ++ r ++ eB).size ≤ 100000 by rw [ByteArray.size_append, ByteArray.size_append]; omega)
    have HY3 := Lib.hid (show (pB ++ r).size ≤ 100000 by rw [ByteArray.size_append]; omega)
    clear hps hqs hes hr9
    go_wp2_with fail
    rcases heB with ⟨hm, heB⟩ | ⟨hm, heB⟩
    case inl =>
      refine wp_region_mix (C := Grows _) [some true, some true, some true, some true, some true, some true, some true, some true, some true, some true, some true, some true, some true, some true, some true, some true, some true, some true, some true, some true, some true, some true, some true, some true, some true, none, none, some false] hmx (by kernel_rfl) (by kernel_rfl) (grows_refl _) ?_
      simp only [headOf, tailOf]
      repeat (go_big_quiet_step (fail))
      refine wpQuiet_nil ?_
      rintro _ ⟨x, rfl⟩
      have NB := Has.new x.w 9 #[.string xB, .string (pB ++ r ++ qB), .string (pB ++ r ++ eB)]
      have q5 := (Below.refl x.w.heap.size x.w).alloc (Nat.le_refl _) (.cells #[.string xB, .string (pB ++ r ++ qB), .string (pB ++ r ++ eB)] 9)
      have q6 := x.below.trans (q5.mono x.below.size)
      replace HT := Lib.hid (HT.out.later q6)
      replace Q := Lib.hid (Q.out.trans (q6.mono Q.out.size))
      replace NB := Lib.hid NB
      clear q5 q6 n1 n2 n3 hrI hr0 hkr0 hkrI hkr hqB hpB hkI hkt hk0 heB hm
      go_wp2_with fail
      rw [calmPost_normal]
      go_wp2_with fail
      obtain ⟨W5, hW5⟩ : ∃ W5, x.w.alloc (.cells #[.string xB, .string (pB ++ r ++ qB), .string (pB ++ r ++ eB)] 9) = W5 := ⟨_, rfl⟩
      rw [hW5] at NB HT Q ⊢
      clear hW5
      generalize x.w.heap.size = B at *
      clear x
      go_loopw [72] (fun i wr => ∃ j : Nat, j ≤ 3 ∧ i = .int .i64 (j : Int) ∧ Has wr B 9 #[.string xB, .string (pB ++ r ++ qB), .string (pB ++ r ++ eB)] ∧ TabE wr ∧ Below w.heap.size w wr) (fun i _ => 3 - (intOf i).toNat)
      case atStart => exact ⟨0, by omega, rfl, NB.out, HT.out, Q.out⟩
      case round =>
        clear NB HT Q
        obtain ⟨j, hj, rfl, hb, ht, hq⟩ := hrel
        by_cases hj3 : j < 3
        · have hjI : (j : Int) < 3 := by omega
          have hj0 : (0 : Int) ≤ (j : Int) := by omega
          obtain ⟨y, hcell, hys⟩ : ∃ y : ByteArray, wr.cell? ⟨B, j, none⟩ = some (.string y) ∧ y.size ≤ 100000 := by
            obtain rfl | rfl | rfl : j = 0 ∨ j = 1 ∨ j = 2 := by omega
            · exact ⟨_, hb.cell 0 _ rfl, by have := HX1.out; omega⟩
            · exact ⟨_, hb.cell 1 _ rfl, HY1.out⟩
            · exact ⟨_, hb.cell 2 _ rfl, HY2.out⟩
          have HB := Lib.hid hb
          have HQ := Lib.hid hq
          have HTT := Lib.hid ht
          have HY := Lib.hid hys
          have HD := Lib.hid (decode_any y (by omega) wr ht)
          have HJ := Lib.hid hj3
          clear hb hq ht hj hj3 hys HY1 HY2 HY3 HX1
          go_wp2_with fail
          refine HD.out.mono ?_
          intro e W6 hdp
          clear HD hcell
          rcases hdec : decR y with ⟨it, a, m⟩ | ⟨ex, p⟩
          · rw [hdec] at hdp
            obtain ⟨vv, rfl, hi, q6⟩ := hdp
            obtain ⟨g1, g2, g3, g4, g5⟩ := decR_ok hdec
            obtain ⟨ga, ca, rfl, _⟩ := hi.open
            have N1 := Has.new W6 29 #[.bool false, .string ⟨#[]⟩, .slice none 0 0]
            have L1 := Has.new W6 29 #[.bool it.list, .string it.bytes, .slice ga it.kids.length ca]
            have x0 := N1.cell 0 _ rfl
            have f0 := N1.frozen 0
            have y0 := L1.cell 0 _ rfl
            have g0' := L1.frozen 0
            have x1 := N1.cell 1 _ rfl
            have f1 := N1.frozen 1
            have y1 := L1.cell 1 _ rfl
            have g1' := L1.frozen 1
            have x2 := N1.cell 2 _ rfl
            have f2 := N1.frozen 2
            have y2 := L1.cell 2 _ rfl
            have g2' := L1.frozen 2
            have q7 := q6.trans ((Below.refl W6.heap.size W6).alloc (Nat.le_refl _) (.cells #[.bool it.list, .string it.bytes, .slice ga it.kids.length ca] 29) |>.mono q6.size)
            have hi2 := hi.later ((Below.refl W6.heap.size W6).alloc (Nat.le_refl _) (.cells #[.bool it.list, .string it.bytes, .slice ga it.kids.length ca] 29))
            have HE := Lib.hid (show ∀ X, Below (W6.alloc (.cells #[.bool it.list, .string it.bytes, .slice ga it.kids.length ca] 29)).heap.size (W6.alloc (.cells #[.bool it.list, .string it.bytes, .slice ga it.kids.length ca] 29)) X → Calls Tryz.prog 13 #[.agg #[.bool it.list, .string it.bytes, .slice ga it.kids.length ca]] X fun e w' => e = .returned (.tuple #[.string y, .int .i64 0]) ∧ Below X.heap.size X w' from fun X hX => by
              have := enc_good it g1 g4 g5 _ X (hi2.later hX).at
              rw [g2] at this
              exact this)
            have HRG := Lib.hid (show ∀ X, Below (W6.alloc (.cells #[.bool it.list, .string it.bytes, .slice ga it.kids.length ca] 29)).heap.size (W6.alloc (.cells #[.bool it.list, .string it.bytes, .slice ga it.kids.length ca] 29)) X → Calls Tryz.prog 17 #[.agg #[.bool it.list, .string it.bytes, .slice ga it.kids.length ca]] X fun e w' => e = .returned (.bool true) ∧ Below X.heap.size X w' from fun X hX => by
              have := right_any it _ X (hi2.later hX).at (by omega)
              rw [g1] at this
              exact this)
            have H7 := Lib.hid q7
            replace L1 := Lib.hid L1
            replace N1 := Lib.hid N1
            clear q6 q7 hi hi2 g1 g2 g3 g4 g5 hdec
            go_wp2_with fail
            clear x0 f0 y0 g0' x1 f1 y1 g1' x2 f2 y2 g2' N1
            refine (HE.out _ (Below.refl _ _)).mono ?_
            rintro _ W7 ⟨rfl, q8⟩
            have L2 := L1.out.later q8
            have k0 := L2.cell 0 _ rfl
            have k1 := L2.cell 1 _ rfl
            have k2 := L2.cell 2 _ rfl
            clear L2
            have H8 := Lib.hid q8
            clear q8
            go_wp2_with fail
            refine (HRG.out _ H8.out).mono ?_
            rintro _ W8 ⟨rfl, q9⟩
            have qa := H7.out.trans ((H8.out.trans (q9.mono H8.out.size)).mono H7.out.size)
            have NX := Lib.hid (show Has W8 B 9 #[.string xB, .string (pB ++ r ++ qB), .string (pB ++ r ++ eB)] ∧ TabE W8 ∧ Below w.heap.size w W8 from ⟨HB.out.later qa, HTT.out.later qa, HQ.out.trans (qa.mono HQ.out.size)⟩)
            clear q9 qa H7 H8 HE HRG k0 k1 k2 L1
            go_wp2_with fail
            go_roundw
            case rel => exact ⟨j + 1, by have := HJ.out; omega, by simp, NX.out.1, NX.out.2.1, NX.out.2.2⟩
            case measure => have := HJ.out; simp [intOf]; omega
          · rw [hdec] at hdp
            obtain ⟨rfl, q6⟩ := hdp
            obtain ⟨g1, g2⟩ := decR_no hdec
            have hexI : ¬ ((ex : Nat) : Int) = 0 := by omega
            have hpI : ((p : Nat) : Int) ≤ ((y.size : Nat) : Int) := by omega
            have hp0 : (0 : Int) ≤ ((p : Nat) : Int) := by omega
            have qb := (Below.refl W6.heap.size W6).alloc (Nat.le_refl _) (.cells #[.bool false, .string ⟨#[]⟩, .slice none 0 0] 29)
            have qa := q6.trans (qb.mono q6.size)
            have NX := Lib.hid (show Has _ B 9 #[.string xB, .string (pB ++ r ++ qB), .string (pB ++ r ++ eB)] ∧ TabE _ ∧ Below w.heap.size w _ from ⟨HB.out.later qa, HTT.out.later qa, HQ.out.trans (qa.mono HQ.out.size)⟩)
            clear q6 qa qb g1 g2 hdec
            go_wp2_with fail
            go_roundw
            case rel => exact ⟨j + 1, by have := HJ.out; omega, by simp, NX.out.1, NX.out.2.1, NX.out.2.2⟩
            case measure => have := HJ.out; simp [intOf]; omega
        · have hjI : ¬ (j : Int) < 3 := by omega
          have HQ := Lib.hid hq
          clear hb hq ht
          go_wp2_with fail
          go_ret
          exact ⟨rfl, HQ.out⟩
    case inr =>
      refine wp_region_mix (C := Grows _) [some true, some true, some true, some true, some true, some true, some true, some true, some true, some true, some true, some true, some true, some true, some true, some true, some true, some true, some true, some true, some true, some true, some true, some true, some true, none, none, some false] hmx (by kernel_rfl) (by kernel_rfl) (grows_refl _) ?_
      simp only [headOf, tailOf]
      repeat (go_big_quiet_step (fail))
      refine wpQuiet_nil ?_
      rintro _ ⟨x, rfl⟩
      have NB := Has.new x.w 9 #[.string xB, .string (pB ++ r ++ qB), .string (pB ++ r)]
      have q5 := (Below.refl x.w.heap.size x.w).alloc (Nat.le_refl _) (.cells #[.string xB, .string (pB ++ r ++ qB), .string (pB ++ r)] 9)
      have q6 := x.below.trans (q5.mono x.below.size)
      replace HT := Lib.hid (HT.out.later q6)
      replace Q := Lib.hid (Q.out.trans (q6.mono Q.out.size))
      replace NB := Lib.hid NB
      clear q5 q6 n1 n2 n3 hrI hr0 hkr0 hkrI hkr hqB hpB hkI hkt hk0 heB hm
      go_wp2_with fail
      rw [calmPost_normal]
      go_wp2_with fail
      obtain ⟨W5, hW5⟩ : ∃ W5, x.w.alloc (.cells #[.string xB, .string (pB ++ r ++ qB), .string (pB ++ r)] 9) = W5 := ⟨_, rfl⟩
      rw [hW5] at NB HT Q ⊢
      clear hW5
      generalize x.w.heap.size = B at *
      clear x
      go_loopw [72] (fun i wr => ∃ j : Nat, j ≤ 3 ∧ i = .int .i64 (j : Int) ∧ Has wr B 9 #[.string xB, .string (pB ++ r ++ qB), .string (pB ++ r)] ∧ TabE wr ∧ Below w.heap.size w wr) (fun i _ => 3 - (intOf i).toNat)
      case atStart => exact ⟨0, by omega, rfl, NB.out, HT.out, Q.out⟩
      case round =>
        clear NB HT Q
        obtain ⟨j, hj, rfl, hb, ht, hq⟩ := hrel
        by_cases hj3 : j < 3
        · have hjI : (j : Int) < 3 := by omega
          have hj0 : (0 : Int) ≤ (j : Int) := by omega
          obtain ⟨y, hcell, hys⟩ : ∃ y : ByteArray, wr.cell? ⟨B, j, none⟩ = some (.string y) ∧ y.size ≤ 100000 := by
            obtain rfl | rfl | rfl : j = 0 ∨ j = 1 ∨ j = 2 := by omega
            · exact ⟨_, hb.cell 0 _ rfl, by have := HX1.out; omega⟩
            · exact ⟨_, hb.cell 1 _ rfl, HY1.out⟩
            · exact ⟨_, hb.cell 2 _ rfl, HY3.out⟩
          have HB := Lib.hid hb
          have HQ := Lib.hid hq
          have HTT := Lib.hid ht
          have HY := Lib.hid hys
          have HD := Lib.hid (decode_any y (by omega) wr ht)
          have HJ := Lib.hid hj3
          clear hb hq ht hj hj3 hys HY1 HY2 HY3 HX1
          go_wp2_with fail
          refine HD.out.mono ?_
          intro e W6 hdp
          clear HD hcell
          rcases hdec : decR y with ⟨it, a, m⟩ | ⟨ex, p⟩
          · rw [hdec] at hdp
            obtain ⟨vv, rfl, hi, q6⟩ := hdp
            obtain ⟨g1, g2, g3, g4, g5⟩ := decR_ok hdec
            obtain ⟨ga, ca, rfl, _⟩ := hi.open
            have N1 := Has.new W6 29 #[.bool false, .string ⟨#[]⟩, .slice none 0 0]
            have L1 := Has.new W6 29 #[.bool it.list, .string it.bytes, .slice ga it.kids.length ca]
            have x0 := N1.cell 0 _ rfl
            have f0 := N1.frozen 0
            have y0 := L1.cell 0 _ rfl
            have g0' := L1.frozen 0
            have x1 := N1.cell 1 _ rfl
            have f1 := N1.frozen 1
            have y1 := L1.cell 1 _ rfl
            have g1' := L1.frozen 1
            have x2 := N1.cell 2 _ rfl
            have f2 := N1.frozen 2
            have y2 := L1.cell 2 _ rfl
            have g2' := L1.frozen 2
            have q7 := q6.trans ((Below.refl W6.heap.size W6).alloc (Nat.le_refl _) (.cells #[.bool it.list, .string it.bytes, .slice ga it.kids.length ca] 29) |>.mono q6.size)
            have hi2 := hi.later ((Below.refl W6.heap.size W6).alloc (Nat.le_refl _) (.cells #[.bool it.list, .string it.bytes, .slice ga it.kids.length ca] 29))
            have HE := Lib.hid (show ∀ X, Below (W6.alloc (.cells #[.bool it.list, .string it.bytes, .slice ga it.kids.length ca] 29)).heap.size (W6.alloc (.cells #[.bool it.list, .string it.bytes, .slice ga it.kids.length ca] 29)) X → Calls Tryz.prog 13 #[.agg #[.bool it.list, .string it.bytes, .slice ga it.kids.length ca]] X fun e w' => e = .returned (.tuple #[.string y, .int .i64 0]) ∧ Below X.heap.size X w' from fun X hX => by
              have := enc_good it g1 g4 g5 _ X (hi2.later hX).at
              rw [g2] at this
              exact this)
            have HRG := Lib.hid (show ∀ X, Below (W6.alloc (.cells #[.bool it.list, .string it.bytes, .slice ga it.kids.length ca] 29)).heap.size (W6.alloc (.cells #[.bool it.list, .string it.bytes, .slice ga it.kids.length ca] 29)) X → Calls Tryz.prog 17 #[.agg #[.bool it.list, .string it.bytes, .slice ga it.kids.length ca]] X fun e w' => e = .returned (.bool true) ∧ Below X.heap.size X w' from fun X hX => by
              have := right_any it _ X (hi2.later hX).at (by omega)
              rw [g1] at this
              exact this)
            have H7 := Lib.hid q7
            replace L1 := Lib.hid L1
            replace N1 := Lib.hid N1
            clear q6 q7 hi hi2 g1 g2 g3 g4 g5 hdec
            go_wp2_with fail
            clear x0 f0 y0 g0' x1 f1 y1 g1' x2 f2 y2 g2' N1
            refine (HE.out _ (Below.refl _ _)).mono ?_
            rintro _ W7 ⟨rfl, q8⟩
            have L2 := L1.out.later q8
            have k0 := L2.cell 0 _ rfl
            have k1 := L2.cell 1 _ rfl
            have k2 := L2.cell 2 _ rfl
            clear L2
            have H8 := Lib.hid q8
            clear q8
            go_wp2_with fail
            refine (HRG.out _ H8.out).mono ?_
            rintro _ W8 ⟨rfl, q9⟩
            have qa := H7.out.trans ((H8.out.trans (q9.mono H8.out.size)).mono H7.out.size)
            have NX := Lib.hid (show Has W8 B 9 #[.string xB, .string (pB ++ r ++ qB), .string (pB ++ r)] ∧ TabE W8 ∧ Below w.heap.size w W8 from ⟨HB.out.later qa, HTT.out.later qa, HQ.out.trans (qa.mono HQ.out.size)⟩)
            clear q9 qa H7 H8 HE HRG k0 k1 k2 L1
            go_wp2_with fail
            go_roundw
            case rel => exact ⟨j + 1, by have := HJ.out; omega, by simp, NX.out.1, NX.out.2.1, NX.out.2.2⟩
            case measure => have := HJ.out; simp [intOf]; omega
          · rw [hdec] at hdp
            obtain ⟨rfl, q6⟩ := hdp
            obtain ⟨g1, g2⟩ := decR_no hdec
            have hexI : ¬ ((ex : Nat) : Int) = 0 := by omega
            have hpI : ((p : Nat) : Int) ≤ ((y.size : Nat) : Int) := by omega
            have hp0 : (0 : Int) ≤ ((p : Nat) : Int) := by omega
            have qb := (Below.refl W6.heap.size W6).alloc (Nat.le_refl _) (.cells #[.bool false, .string ⟨#[]⟩, .slice none 0 0] 29)
            have qa := q6.trans (qb.mono q6.size)
            have NX := Lib.hid (show Has _ B 9 #[.string xB, .string (pB ++ r ++ qB), .string (pB ++ r)] ∧ TabE _ ∧ Below w.heap.size w _ from ⟨HB.out.later qa, HTT.out.later qa, HQ.out.trans (qa.mono HQ.out.size)⟩)
            clear q6 qa qb g1 g2 hdec
            go_wp2_with fail
            go_roundw
            case rel => exact ⟨j + 1, by have := HJ.out; omega, by simp, NX.out.1, NX.out.2.1, NX.out.2.2⟩
            case measure => have := HJ.out; simp [intOf]; omega
        · have hjI : ¬ (j : Int) < 3 := by omega
          have HQ := Lib.hid hq
          clear hb hq ht
          go_wp2_with fail
          go_ret
          exact ⟨rfl, HQ.out⟩)
end Go.Proofs.YtkdbokbnongknaaGreatDoor
