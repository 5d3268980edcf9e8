import Derived.Test.YtkdbokbnongknaaGreatDoorU24
/- RlpCuts: the law answers true. Conditions: the raw numbers lie in memory; a table of the library. -/
namespace Go.Proofs.YtkdbokbnongknaaGreatDoor
open Go Go.RowKit
attribute [local go_sem] Oper.semAt_some Grows wide_fn

theorem bytesE (l : List UInt8) (b : ByteArray) (h : b.data.toList = l) : b = ⟨l.toArray⟩ := by rw [← h]
set_option maxRecDepth 100000 in
set_option maxHeartbeats 8000000 in
theorem cuts_ret (w : World) (hT : TabE w) (v : Value) (zs : List (Int × Int)) (hr : RawAt w v zs) (c : Int) (hc : I64 c) (more : ByteArray) (hsz : more.size ≤ 140737488355328) :
    Calls Tryz.prog 6 #[v, .int .i64 c, .string more] w fun e w' => e = .returned (.bool true) ∧ Below w.heap.size w w' := by
  have hmx : Tryz.prog.follows .mixedOrders = true := by kernel_rfl
  have HR := Lib.hid hr
  have HT := Lib.hid hT
  have HS := Lib.hid hsz
  have HCI := Lib.hid hc
  have h90 : more.size ≤ 9 ∨ 9 < more.size := by omega
  obtain ⟨r, hr1, hr2⟩ : ∃ r : ByteArray, r.size ≤ 9 ∧ (more.size ≤ 9 → more.extract 0 more.size = r) ∧ (9 < more.size → more.extract 0 9 = r) := by
    rcases h90 with h | h
    · exact ⟨_, by rw [ByteArray.size_extract]; omega, fun _ => rfl, fun h' => by omega⟩
    · exact ⟨_, by rw [ByteArray.size_extract]; omega, fun h' => by omega, fun _ => rfl⟩
  have HR2 := Lib.hid hr2
  have HR1 := Lib.hid hr1
  clear hr hT hsz hc hr1 hr2
  go_enter Tryz.func6, Tryz.ntmps6
  go_wp2_with fail
  refine (awake_any _ HT.out).mono ?_
  rintro _ W1 ⟨rfl, q1⟩
  replace HR := Lib.hid (HR.out.later q1)
  replace HT := Lib.hid (HT.out.later q1)
  have Q := Lib.hid q1
  clear q1
  go_wp2_with fail
  refine (raw_good 3 (by decide) v zs W1 HR.out).mono ?_
  rintro _ W2 ⟨t, u, rfl, hi, ⟨ho, _, hcn, hl⟩, q2⟩
  replace HT := Lib.hid (HT.out.later q2)
  replace Q := Lib.hid (Q.out.trans (q2.mono Q.out.size))
  have HE := Lib.hid (enc_good t ho (by omega) (by omega) u W2 hi.at)
  have hpos := encI_pos t
  have HO := Lib.hid (And.intro ho (And.intro hl hpos))
  clear q2 hi HR hcn
  obtain ⟨tB, htB⟩ : ∃ tB : ByteArray, (⟨(encI t).toArray⟩ : ByteArray) = tB := ⟨_, rfl⟩
  have hts : tB.size = (encI t).length := by rw [← htB, sizeM]
  have HtB := Lib.hid (And.intro htB hts)
  rw [htB] at HE
  go_wp2_with fail
  refine HE.out.mono ?_
  rintro _ W3 ⟨rfl, q3⟩
  replace HT := Lib.hid (HT.out.later q3)
  replace Q := Lib.hid (Q.out.trans (q3.mono Q.out.size))
  have hn0 : ¬ ((tB.size : Nat) : Int) = 0 := by omega
  obtain ⟨k, hk, hk2⟩ : ∃ k : Nat, pickN c (tB.size : Int) = (k : Int) ∧ k < tB.size := ⟨(pickN c (tB.size : Int)).toNat, by have := pickN_range c (tB.size : Int) (by omega); omega, by have := pickN_range c (tB.size : Int) (by omega); omega⟩
  have HP0 := pick_ret c HCI.out (tB.size : Int) (by omega) (by omega)
  rw [hk] at HP0
  have HP := Lib.hid HP0
  have HK := Lib.hid hk2
  clear q3 HE hl hpos ho htB hts HP0 hk hk2
  go_wp2_with fail
  refine (HP.out _).mono ?_
  rintro _ W4 ⟨rfl, q4⟩
  replace HT := Lib.hid (HT.out.later q4)
  replace Q := Lib.hid (Q.out.trans (q4.mono Q.out.size))
  have hkI : (k : Int) ≤ ((tB.size : Nat) : Int) := by have := HK.out; omega
  have hk0 : (0 : Int) ≤ (k : Int) := by omega
  have hxc : tB.extract 0 k = ⟨((encI t).take k).toArray⟩ := by rw [← HtB.out.1, Lib.extract_mk, List.drop_zero, Nat.sub_zero]
  have HD1 := Lib.hid (dec_fail (tB.extract 0 k) 10 0 10 0 (by rw [hxc]; exact dec_cut t k HO.out.1 (by have := HO.out.2.1; omega) (by have := HK.out; have := HtB.out.2; omega)) rfl rfl (by rw [ByteArray.size_extract]; have := HK.out; have := HtB.out.2; have := HO.out.2.1; omega) W4 HT.out)
  clear q4 HP hxc
  have NA := Has.new W4 29 #[.bool false, .string ⟨#[]⟩, .slice none 0 0]
  clear NA
  go_wp2_with fail
  refine HD1.out.mono ?_
  rintro _ W5 ⟨rfl, q5⟩
  have q6 := (Below.refl W5.heap.size W5).alloc (Nat.le_refl _) (.cells #[.bool false, .string ⟨#[]⟩, .slice none 0 0] 29)
  have q5' := q5.trans (q6.mono q5.size)
  replace HT := Lib.hid (HT.out.later q5')
  replace Q := Lib.hid (Q.out.trans (q5'.mono Q.out.size))
  have hxd : tB ++ (⟨#[0]⟩ : ByteArray) ++ r = ⟨(encI t ++ (0 :: r.data.toList)).toArray⟩ := by
    refine bytesE _ _ ?_
    simp only [ByteArray.data_append, Array.toList_append, ← HtB.out.1]
    simp
  have hrl : r.data.toList.length ≤ 9 := by rw [← Lib.size_eq]; exact HR1.out
  have HD2 := Lib.hid (dec_fail (tB ++ (⟨#[0]⟩ : ByteArray) ++ r) 12 (encI t).length 12 ((tB.size : Nat) : Int) (by rw [hxd]; exact dec_more t _ HO.out.1 (by have := HO.out.2.1; simp only [List.length_cons]; omega) (by simp)) rfl (by have := HtB.out.2; omega) (by rw [hxd, sizeM, List.length_append, List.length_cons]; have := HO.out.2.1; omega) _ HT.out)
  clear q5 q5' q6 HD1 hxd hrl
  have n1 : ¬ 9223372036854775807 < tB.size + 1 := by have := HtB.out.2; have := HO.out.2.1; omega
  have n2 : ¬ 9223372036854775807 < tB.size + 1 + r.size := by have := HtB.out.2; have := HO.out.2.1; have := HR1.out; omega
  rcases h90 with h9 | h9
  · have h9I : ((more.size : Nat) : Int) ≤ 9 := by omega
    have hex := HR2.out.1 h9
    replace h9 := Lib.hid h9
    go_wp2_with fail
    refine HD2.out.mono ?_
    rintro _ W7 ⟨rfl, q7⟩
    have q8 := (Below.refl W7.heap.size W7).alloc (Nat.le_refl _) (.cells #[.bool false, .string ⟨#[]⟩, .slice none 0 0] 29)
    replace Q := Lib.hid (Q.out.trans ((q7.trans (q8.mono q7.size)).mono Q.out.size))
    clear q7 q8 HT HD2 n1 n2 hex h9I
    go_wp2_with fail
    go_ret
    exact ⟨rfl, Q.out⟩
  · have h9I : ¬ ((more.size : Nat) : Int) ≤ 9 := by omega
    have hex := HR2.out.2 h9
    replace h9 := Lib.hid h9
    go_wp2_with fail
    refine HD2.out.mono ?_
    rintro _ W7 ⟨rfl, q7⟩
    have q8 := (Below.refl W7.heap.size W7).alloc (Nat.le_refl _) (.cells #[.bool false, .string ⟨#[]⟩, .slice none 0 0] 29)
    replace Q := Lib.hid (Q.out.trans ((q7.trans (q8.mono q7.size)).mono Q.out.size))
    clear q7 q8 HT HD2 n1 n2 hex h9I
    go_wp2_with fail
    go_ret
    exact ⟨rfl, Q.out⟩
end Go.Proofs.YtkdbokbnongknaaGreatDoor
