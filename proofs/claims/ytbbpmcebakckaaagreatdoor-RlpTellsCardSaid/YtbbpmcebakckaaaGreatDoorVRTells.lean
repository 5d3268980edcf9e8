import Derived.Test.YtbbpmcebakckaaaGreatDoorVRTlM
/- RlpTells. Conditions: the raw numbers lie in memory; a table of the library. -/
namespace Go.Proofs.YtbbpmcebakckaaaGreatDoor
open Go Go.RowKit Late
attribute [local go_sem] Oper.semAt_some Grows wide_fn eq4

set_option maxRecDepth 100000 in
set_option maxHeartbeats 16000000 in
theorem rtells_ret (w : World) (hT : TabE w) (s : ByteArray) (hs : s.size ≤ 140737488355328) (v : Value) (zs : List (Int × Int)) (hr : RawAt w v zs) (wn : Nat) (hwn : W256 wn) (c : Int) (hc : I64 c) (more : ByteArray) (hsz : more.size ≤ 140737488355328) (lb : Bool) :
    Calls Tryz.prog 3 #[.string s, v, wv wn, .int .i64 c, .string more, .bool lb] w fun e w' => e = .returned (.bool true) ∧ Below w.heap.size w w' := by
  have hmx : Tryz.prog.follows .mixedOrders = true := by kernel_rfl
  have HWN := Lib.hid hwn
  have HCI := Lib.hid hc
  have KA := Has.new w 25 #[.int .u64 (lim wn 0), .int .u64 (lim wn 1), .int .u64 (lim wn 2), .int .u64 (lim wn 3)]
  have Q0 := (Below.refl w.heap.size w).alloc (Nat.le_refl _) (.cells #[.int .u64 (lim wn 0), .int .u64 (lim wn 1), .int .u64 (lim wn 2), .int .u64 (lim wn 3)] 25)
  have HR := Lib.hid (hr.later Q0)
  have HT := Lib.hid (hT.later Q0)
  unfold wv
  obtain ⟨w0, hV⟩ : ∃ V, w.alloc (.cells #[.int .u64 (lim wn 0), .int .u64 (lim wn 1), .int .u64 (lim wn 2), .int .u64 (lim wn 3)] 25) = V := ⟨_, rfl⟩
  rw [hV] at KA Q0 HR HT
  have K1 := Lib.hid KA
  have Q := Lib.hid Q0
  have HA := Lib.hid (awake_any _ HT.out)
  have hsI : (s.size : Int) ≤ 140737488355328 := by omega
  have hmI : (more.size : Int) ≤ 140737488355328 := by omega
  have HSZ := Lib.hid (And.intro hs hsz)
  clear KA Q0 hr hT hwn hc hs hsz
  go_enter Tryz.func3, Tryz.ntmps3
  go_wp2_with fail
  refine HA.out.mono ?_
  rintro _ w1 ⟨rfl, hq⟩
  clear hV HA
  have Q' := Lib.hid (Q.out.trans (hq.mono Q.out.size))
  clear Q
  have Q := Q'
  clear Q'
  have K1' := Lib.hid (K1.out.later hq)
  clear K1
  have K1 := K1'
  clear K1'
  have HT' := Lib.hid (HT.out.later hq)
  clear HT
  have HT := HT'
  clear HT'
  have HR' := Lib.hid (HR.out.later hq)
  clear HR
  have HR := HR'
  clear HR'
  clear hq
  go_upto_if 43 with fail
  go_cut [14] from 14 to 231 (fun u wx => w1 = wx ∧ ∃ xB : ByteArray, u = .string xB ∧ xB.size ≤ 400)
  case first =>
    by_cases h4 : s.size ≤ 400
    · have h4I : ¬ 400 < (s.size : Int) := by omega
      have H4 := Lib.hid h4
      clear h4
      go_wp2_with fail
      go_meet
      exact ⟨rfl, s, rfl, H4.out⟩
    · have h4I : 400 < (s.size : Int) := by omega
      have h4N : 400 ≤ s.size := by omega
      have H4 := Lib.hid (show (s.extract 0 400).size ≤ 400 from by rw [ByteArray.size_extract]; omega)
      clear h4
      go_wp2_with fail
      go_meet
      exact ⟨rfl, _, rfl, H4.out⟩
  case rest =>
    obtain ⟨rfl, xB, rfl, hxs⟩ := hcut
    have HXS := Lib.hid hxs
    clear hxs
    go_wp2_with fail
    refine (raw_good 3 (by decide) v zs w1 HR.out).mono ?_
    rintro _ w2 ⟨ti, u, rfl, hi, ⟨ho, _, hcn, hl⟩, hq⟩
    have Q' := Lib.hid (Q.out.trans (hq.mono Q.out.size))
    clear Q
    have Q := Q'
    clear Q'
    have K1' := Lib.hid (K1.out.later hq)
    clear K1
    have K1 := K1'
    clear K1'
    have HT' := Lib.hid (HT.out.later hq)
    clear HT
    have HT := HT'
    clear HT'
    have HR' := Lib.hid (HR.out.later hq)
    clear HR
    have HR := HR'
    clear HR'
    obtain ⟨ia, ic, rfl, _⟩ := hi.open
    have HIB := Lib.hid (show okI ti = true ∧ countI ti ≤ 512 ∧ (encI ti).length ≤ 40448 from ⟨ho, hcn, hl⟩)
    have HI := Lib.hid hi.at
    clear hq HR ho hcn hl hi
    -- its box
    have hb := (Below.refl w2.heap.size w2).alloc (Nat.le_refl _) (.cells #[.bool ti.list, .string ti.bytes, .slice ia ti.kids.length ic] 29)
    have BI := Lib.hid (Has.new w2 29 #[.bool ti.list, .string ti.bytes, .slice ia ti.kids.length ic])
    have HZ := Has.new w2 29 #[.bool false, .string ⟨#[]⟩, .slice none 0 0]
    have n0 := HZ.cell 0 _ rfl
    have n1 := HZ.cell 1 _ rfl
    have n2 := HZ.cell 2 _ rfl
    have g0 := HZ.frozen 0
    have g1 := HZ.frozen 1
    have g2 := HZ.frozen 2
    have hq := hb
    have Q' := Lib.hid (Q.out.trans (hq.mono Q.out.size))
    clear Q
    have Q := Q'
    clear Q'
    have K1' := Lib.hid (K1.out.later hq)
    clear K1
    have K1 := K1'
    clear K1'
    have HT' := Lib.hid (HT.out.later hq)
    clear HT
    have HT := HT'
    clear HT'
    have HI' := Lib.hid (HI.out.later' hq)
    clear HI
    have HI := HI'
    clear HI'
    clear hb hq HZ
    go_wp2_with fail
    clear n0 n1 n2 g0 g1 g2
    obtain ⟨Bi, hBi⟩ : ∃ B, w2.heap.size = B := ⟨_, rfl⟩
    obtain ⟨w3, hw3⟩ : ∃ w3, w2.alloc (.cells #[.bool ti.list, .string ti.bytes, .slice ia ti.kids.length ic] 29) = w3 := ⟨_, rfl⟩
    rw [hw3] at BI Q K1 HT HI ⊢
    rw [hBi] at BI ⊢
    clear hw3 hBi
    obtain ⟨k, hk, hk2⟩ : ∃ k : Nat, pickN c 2 = (k : Int) ∧ k ≤ 1 := ⟨(pickN c 2).toNat, by have := pickN_range c 2 (by omega); omega, by have := pickN_range c 2 (by omega); omega⟩
    have HP := pick_ret c HCI.out 2 (by omega) (by omega)
    rw [hk] at HP
    replace HP := Lib.hid HP
    have HK2 := Lib.hid hk2
    clear hk hk2
    refine Late.wp_region_ghost [some (.bool lb), some (.string xB), some (.agg #[.bool ti.list, .string ti.bytes, .slice ia ti.kids.length ic]), none, some (.int .i64 c), some (.int .i64 (k : Int)), none, none, none, none] [[], [], [], [2], [], [4], [2, 3, 4, 5], [0, 1, 2, 3, 4, 5, 6], [], [0, 1, 2, 3, 4, 5, 6, 7, 8]] (OddU w3 #[.bool ti.list, .string ti.bytes, .slice ia ti.kids.length ic] k lb xB) (by kernel_rfl) (by kernel_rfl) (by kernel_rfl) (fun f g wa wb h hb => h.later hb) (fun f f' g g' wa h hh => hh.same (h 3 rfl) (h 6 rfl) (h 7 rfl) (h 8 rfl) (h 9 rfl)) OddU.start ?_
    rintro f g y hU0 Dn
    have hU := Lib.hid hU0
    clear hU0
    refine GW.known _ rfl (fun hd hf => ?_) ?_
    · go_wp2
      exact ⟨rfl, rfl, Below.refl _ _⟩
    simp only [Act.put, List.setIfInBounds_toArray, List.set_cons_succ, List.set_cons_zero]
    refine GW.known _ rfl (fun hd hf => ?_) ?_
    · go_wp2
      exact ⟨rfl, rfl, Below.refl _ _⟩
    simp only [Act.put, List.setIfInBounds_toArray, List.set_cons_succ, List.set_cons_zero]
    refine GW.known _ rfl (fun hd hf => ?_) ?_
    · have hz := BI.out.later hU.out.1
      have q0 := hz.cell 0 _ rfl
      have q1 := hz.cell 1 _ rfl
      have q2 := hz.cell 2 _ rfl
      clear hz
      go_wp2
      exact ⟨rfl, rfl, Below.refl _ _⟩
    simp only [Act.put, List.setIfInBounds_toArray, List.set_cons_succ, List.set_cons_zero]
    refine GW.open rfl (fun hd hf => ?_) ?_
    · have K := Lib.hid (hU.out.kid (by cases h : f 6 with | false => rfl | true => exact absurd (Dn 6 h 3 (by decide)) (by rw [hf]; simp)) (by cases h : f 7 with | false => rfl | true => exact absurd (Dn 7 h 3 (by decide)) (by rw [hf]; simp)) (by cases h : f 9 with | false => rfl | true => exact absurd (Dn 9 h 3 (by decide)) (by rw [hf]; simp)))
      go_wp2
      exact ⟨rfl, K.out⟩
    simp only [Act.put, List.setIfInBounds_toArray, List.set_cons_succ, List.set_cons_zero]
    refine GW.known _ rfl (fun hd hf => ?_) ?_
    · go_wp2
      exact ⟨rfl, rfl, Below.refl _ _⟩
    simp only [Act.put, List.setIfInBounds_toArray, List.set_cons_succ, List.set_cons_zero]
    refine GW.known _ rfl (fun hd hf => ?_) ?_
    · go_wp2_with fail
      refine (HP.out _).mono ?_
      rintro e u ⟨rfl, hb⟩
      go_wp2
      exact ⟨rfl, rfl, hb⟩
    simp only [Act.put, List.setIfInBounds_toArray, List.set_cons_succ, List.set_cons_zero]
    refine GW.open rfl (fun hd hf => ?_) ?_
    · obtain ⟨B, e, _⟩ := hU.out.2.1 (hd 3 (by decide))
      have K := Lib.hid (hU.out.cut (hd 3 (by decide)) (by cases h : f 7 with | false => rfl | true => exact absurd (Dn 7 h 6 (by decide)) (by rw [hf]; simp)) (by cases h : f 9 with | false => rfl | true => exact absurd (Dn 9 h 6 (by decide)) (by rw [hf]; simp)) e)
      have hk0 : (0 : Int) ≤ (k : Int) := by omega
      have hk1 : (k : Int) ≤ 1 := by have := HK2.out; omega
      have hkn : k ≤ 1 := HK2.out
      have hkt : ((k : Int)).toNat = k := by omega
      rw [show g (0 + 1 + 1 + 1) = .slice (some ⟨B, 0, none⟩) 1 1 from e]
      clear e
      go_wp2
      exact ⟨rfl, K.out⟩
    simp only [Act.put, List.setIfInBounds_toArray, List.set_cons_succ, List.set_cons_zero]
    refine GW.open rfl (fun hd hf => ?_) ?_
    · obtain ⟨B, e, _, e6, _, _⟩ := hU.out.2.1 (hd 3 (by decide))
      have e7 := e6 (hd 6 (by decide))
      have K := Lib.hid (hU.out.build (hd 3 (by decide)) (hd 6 (by decide)) (by cases h : f 9 with | false => rfl | true => exact absurd (Dn 9 h 7 (by decide)) (by rw [hf]; simp)) e)
      rw [show g (0 + 1 + 1 + 1 + 1 + 1 + 1) = .slice (some ⟨B, 0, none⟩) k 1 from e7]
      clear e e6 e7
      go_wp2
      exact ⟨rfl, K.out⟩
    simp only [Act.put, List.setIfInBounds_toArray, List.set_cons_succ, List.set_cons_zero]
    refine GW.open rfl (fun hd hf => ?_) ?_
    · have K := Lib.hid (hU.out.box (by cases h : f 9 with | false => rfl | true => exact absurd (Dn 9 h 8 (by decide)) (by rw [hf]; simp)))
      go_wp2
      exact ⟨rfl, K.out⟩
    simp only [Act.put, List.setIfInBounds_toArray, List.set_cons_succ, List.set_cons_zero]
    refine GW.open rfl (fun hd hf => ?_) ?_
    · obtain ⟨B, e, _, _, e7, _⟩ := hU.out.2.1 (hd 3 (by decide))
      have e8 := e7 (hd 7 (by decide))
      obtain ⟨Bo, eB, hB, LB, _⟩ := hU.out.2.2 (hd 8 (by decide)) hf
      have K := Lib.hid (fun u => hU.out.store (u := u) (hd 3 (by decide)) (hd 7 (by decide)) (hd 6 (by decide)) (hd 8 (by decide)) hf e eB)
      have n0 := LB.cell 0 _ rfl
      have n1 := LB.cell 1 _ rfl
      have n2 := LB.cell 2 _ rfl
      have g0 := LB.frozen 0
      have g1 := LB.frozen 1
      have g2 := LB.frozen 2
      rw [show g (0 + 1 + 1 + 1 + 1 + 1 + 1 + 1) = .agg #[.bool lb, .string xB, .slice (some ⟨B, 0, none⟩) k 1] from e8, show g (0 + 1 + 1 + 1 + 1 + 1 + 1 + 1 + 1) = .pointer (some ⟨Bo, 0, none⟩) from eB]
      clear e e7 e8 eB LB hB
      go_wp2
      exact ⟨rfl, K.out _⟩
    simp only [Act.put, List.setIfInBounds_toArray, List.set_cons_succ, List.set_cons_zero]
    refine GW.nil (fun hall => ?_)
    obtain ⟨Bk, Bo, e3, e6, e7, e8, hk3, ho3⟩ := hU.out.done (hall 3 (by omega)) (hall 6 (by omega)) (hall 7 (by omega)) (hall 9 (by omega))
    have hq := hU.out.1
    rw [e3, e6, e7, e8]
    have Q' := Lib.hid (Q.out.trans (hq.mono Q.out.size))
    clear Q
    have Q := Q'
    clear Q'
    have K1' := Lib.hid (K1.out.later hq)
    clear K1
    have K1 := K1'
    clear K1'
    have HT' := Lib.hid (HT.out.later hq)
    clear HT
    have HT := HT'
    clear HT'
    have HI' := Lib.hid (HI.out.later' hq)
    clear HI
    have HI := HI'
    clear HI'
    have BI' := Lib.hid (BI.out.later hq)
    clear BI
    have BI := BI'
    clear BI'
    have BO := Lib.hid ho3
    obtain ⟨td, htd, hta, htc, hte⟩ := odd_item HI.out hk3 HK2.out HXS.out HIB.out lb
    clear htd
    have HD := Lib.hid hta
    have HDB := Lib.hid (And.intro htc hte)
    clear e3 e6 e7 e8 hU Dn hall hk3 ho3 hq hta htc hte HP
    obtain ⟨w4, hw4⟩ : ∃ w4, w4 = y := ⟨_, rfl⟩
    subst hw4
    go_wp2_with fail
    have HNUM := Lib.hid (number_ret wn HWN.out)
    refine Late.wp_region_ghost [some (.agg #[.bool ti.list, .string ti.bytes, .slice ia ti.kids.length ic]), some (.agg #[.bool lb, .string xB, .slice (some ⟨Bk, 0, none⟩) k 1]), some (.string xB), some (.agg #[.bool false, .string xB, .slice none 0 0]), some (.agg #[.int .u64 (lim wn 0), .int .u64 (lim wn 1), .int .u64 (lim wn 2), .int .u64 (lim wn 3)]), some (.agg #[.bool false, .string ⟨(digs wn).toArray⟩, .slice none 0 0]), some (.agg #[.bool ti.list, .string ti.bytes, .slice ia ti.kids.length ic]), some (.agg #[.bool lb, .string xB, .slice (some ⟨Bk, 0, none⟩) k 1]), none, none, none, some (.int .i64 5), some (.int .i64 0)] [[], [], [], [2], [], [2, 3, 4], [], [], [6, 7], [2, 3, 4, 5, 6, 7, 8], [0, 1, 2, 3, 4, 5, 6, 7, 8, 9], [0, 1, 2, 3, 4, 5, 6, 7, 8, 9, 10], []] (FivU w4 ti td (fun la lc => #[.bool ti.list, .string ti.bytes, .slice ia ti.kids.length ic, .bool lb, .string xB, .slice (some ⟨Bk, 0, none⟩) k 1, .bool false, .string xB, .slice none 0 0, .bool false, .string ⟨(digs wn).toArray⟩, .slice none 0 0, .bool true, .string ⟨#[]⟩, .slice la 2 lc]) #[.bool ti.list, .string ti.bytes, .slice ia ti.kids.length ic, .bool lb, .string xB, .slice (some ⟨Bk, 0, none⟩) k 1]) (by kernel_rfl) (by kernel_rfl) (by kernel_rfl) (fun f g wa wb h hb => h.later hb) (fun f f' g g' wa h hh => hh.same (h 8 rfl) (h 9 rfl) (h 10 rfl)) FivU.start ?_
    rintro f g y hU0 Dn
    have hU := Lib.hid hU0
    clear hU0
    refine GW.known _ rfl (fun hd hf => ?_) ?_
    · have hz := BI.out.later hU.out.1
      have q0 := hz.cell 0 _ rfl
      have q1 := hz.cell 1 _ rfl
      have q2 := hz.cell 2 _ rfl
      clear hz
      go_wp2
      exact ⟨rfl, rfl, Below.refl _ _⟩
    simp only [Act.put, List.setIfInBounds_toArray, List.set_cons_succ, List.set_cons_zero]
    refine GW.known _ rfl (fun hd hf => ?_) ?_
    · have hz := BO.out.later hU.out.1
      have q0 := hz.cell 0 _ rfl
      have q1 := hz.cell 1 _ rfl
      have q2 := hz.cell 2 _ rfl
      clear hz
      go_wp2
      exact ⟨rfl, rfl, Below.refl _ _⟩
    simp only [Act.put, List.setIfInBounds_toArray, List.set_cons_succ, List.set_cons_zero]
    refine GW.known _ rfl (fun hd hf => ?_) ?_
    · go_wp2
      exact ⟨rfl, rfl, Below.refl _ _⟩
    simp only [Act.put, List.setIfInBounds_toArray, List.set_cons_succ, List.set_cons_zero]
    refine GW.known _ rfl (fun hd hf => ?_) ?_
    · go_wp2_with fail
      refine (text_any xB y).mono ?_
      rintro e u ⟨rfl, hb⟩
      go_wp2
      exact ⟨rfl, rfl, hb⟩
    simp only [Act.put, List.setIfInBounds_toArray, List.set_cons_succ, List.set_cons_zero]
    refine GW.known _ rfl (fun hd hf => ?_) ?_
    · have hz := K1.out.later hU.out.1
      have q0 := hz.cell 0 _ rfl
      have q1 := hz.cell 1 _ rfl
      have q2 := hz.cell 2 _ rfl
      have q3 := hz.cell 3 _ rfl
      clear hz
      go_wp2
      exact ⟨rfl, rfl, Below.refl _ _⟩
    simp only [Act.put, List.setIfInBounds_toArray, List.set_cons_succ, List.set_cons_zero]
    refine GW.known _ rfl (fun hd hf => ?_) ?_
    · have HN2 := HNUM.out
      unfold wv txtV at HN2
      go_wp2_with fail
      refine (HN2 _).mono ?_
      rintro e u ⟨rfl, hb⟩
      go_wp2
      exact ⟨rfl, rfl, hb⟩
    simp only [Act.put, List.setIfInBounds_toArray, List.set_cons_succ, List.set_cons_zero]
    refine GW.known _ rfl (fun hd hf => ?_) ?_
    · have hz := BI.out.later hU.out.1
      have q0 := hz.cell 0 _ rfl
      have q1 := hz.cell 1 _ rfl
      have q2 := hz.cell 2 _ rfl
      clear hz
      go_wp2
      exact ⟨rfl, rfl, Below.refl _ _⟩
    simp only [Act.put, List.setIfInBounds_toArray, List.set_cons_succ, List.set_cons_zero]
    refine GW.known _ rfl (fun hd hf => ?_) ?_
    · have hz := BO.out.later hU.out.1
      have q0 := hz.cell 0 _ rfl
      have q1 := hz.cell 1 _ rfl
      have q2 := hz.cell 2 _ rfl
      clear hz
      go_wp2
      exact ⟨rfl, rfl, Below.refl _ _⟩
    simp only [Act.put, List.setIfInBounds_toArray, List.set_cons_succ, List.set_cons_zero]
    refine GW.open rfl (fun hd hf => ?_) ?_
    · have K := Lib.hid (hU.out.two (by cases h : f 9 with | false => rfl | true => exact absurd (Dn 9 h 8 (by decide)) (by rw [hf]; simp)) (by cases h : f 10 with | false => rfl | true => exact absurd (Dn 10 h 8 (by decide)) (by rw [hf]; simp)))
      go_wp2
      exact ⟨rfl, K.out⟩
    simp only [Act.put, List.setIfInBounds_toArray, List.set_cons_succ, List.set_cons_zero]
    refine GW.open rfl (fun hd hf => ?_) ?_
    · obtain ⟨B, e, hB⟩ := hU.out.2.1 (hd 8 (by decide)) hf
      have HL := Lib.hid (list_any [ti, td] (some ⟨B, 0, none⟩) 2 y (kids_two hB (HI.out.later' hU.out.1) (HD.out.later' hU.out.1)) (by simp))
      have hU2 := Lib.hid (fun (y2 : World) (vl : Value) => hU.out.list (y2 := y2) (vl := vl) (hd 8 (by decide)) (by cases h : f 10 with | false => rfl | true => exact absurd (Dn 10 h 9 (by decide)) (by rw [hf]; simp)))
      rw [show g (0 + 1 + 1 + 1 + 1 + 1 + 1 + 1 + 1) = .slice (some ⟨B, 0, none⟩) 2 2 from e]
      clear e hB
      go_wp2_with fail
      refine HL.out.mono ?_
      rintro _ y2 ⟨la, lc, rfl, hit, hb⟩
      have K := Lib.hid (hU2.out y2 _ hb hit.at)
      clear hit hb
      go_wp2
      exact ⟨rfl, K.out⟩
    simp only [Act.put, List.setIfInBounds_toArray, List.set_cons_succ, List.set_cons_zero]
    refine GW.open rfl (fun hd hf => ?_) ?_
    · obtain ⟨la, lc, e, hl⟩ := hU.out.2.2.1 (hd 9 (by decide)) hf
      have K := Lib.hid (hU.out.five (hd 9 (by decide)) hf e)
      rw [show g (0 + 1 + 1 + 1 + 1 + 1 + 1 + 1 + 1 + 1) = .agg #[.bool true, .string ⟨#[]⟩, .slice la 2 lc] from e]
      clear e hl
      go_wp2
      exact ⟨rfl, K.out⟩
    simp only [Act.put, List.setIfInBounds_toArray, List.set_cons_succ, List.set_cons_zero]
    refine GW.known _ rfl (fun hd hf => ?_) ?_
    · obtain ⟨B, la, lc, e, _⟩ := hU.out.2.2.2 (hd 10 (by decide))
      rw [show g (0 + 1 + 1 + 1 + 1 + 1 + 1 + 1 + 1 + 1 + 1) = .slice (some ⟨B, 0, none⟩) 5 5 from e]
      clear e
      go_wp2
      exact ⟨rfl, rfl, Below.refl _ _⟩
    simp only [Act.put, List.setIfInBounds_toArray, List.set_cons_succ, List.set_cons_zero]
    refine GW.known _ rfl (fun hd hf => ?_) ?_
    · go_wp2
      exact ⟨rfl, rfl, Below.refl _ _⟩
    simp only [Act.put, List.setIfInBounds_toArray, List.set_cons_succ, List.set_cons_zero]
    refine GW.nil (fun hall => ?_)
    obtain ⟨B5, la, lc, e10, hB5, hlist⟩ := hU.out.2.2.2 (hall 10 (by omega))
    have hq := hU.out.1
    rw [e10]
    obtain ⟨x8, hx8⟩ : ∃ x, g 8 = x := ⟨_, rfl⟩
    obtain ⟨x9, hx9⟩ : ∃ x, g 9 = x := ⟨_, rfl⟩
    rw [hx8, hx9]
    have Q' := Lib.hid (Q.out.trans (hq.mono Q.out.size))
    clear Q
    have Q := Q'
    clear Q'
    have K1' := Lib.hid (K1.out.later hq)
    clear K1
    have K1 := K1'
    clear K1'
    have HT' := Lib.hid (HT.out.later hq)
    clear HT
    have HT := HT'
    clear HT'
    have HI' := Lib.hid (HI.out.later' hq)
    clear HI
    have HI := HI'
    clear HI'
    have BI' := Lib.hid (BI.out.later hq)
    clear BI
    have BI := BI'
    clear BI'
    have BO' := Lib.hid (BO.out.later hq)
    clear BO
    have BO := BO'
    clear BO'
    have HD' := Lib.hid (HD.out.later' hq)
    clear HD
    have HD := HD'
    clear HD'
    have HFIV := Lib.hid (fun (X : World) (hX : Below y.heap.size y X) => five_items (X := X) (hB5.later hX) (HI.out.later' hX) (HD.out.later' hX) (hlist.later' hX) HIB.out.2 HDB.out (two_bounds HIB.out.2 HDB.out) HXS.out HWN.out)
    clear hx8 hx9 e10 hU Dn hall hB5 hlist hq HNUM
    obtain ⟨w5, hw5⟩ : ∃ w5, w5 = y := ⟨_, rfl⟩
    subst hw5
    go_wp2_with fail
    go_loopw [68] (fun i wr => ∃ j : Nat, j ≤ 5 ∧ i = .int .i64 (j : Int) ∧ Below w5.heap.size w5 wr) (fun i _ => 5 - (intOf i).toNat)
    case atStart => exact ⟨0, by omega, rfl, Below.refl _ _⟩
    case round =>
      obtain ⟨j, hj, rfl, hq⟩ := hrel
      have HQ := Lib.hid hq
      have Q' := Lib.hid (Q.out.trans (hq.mono Q.out.size))
      clear Q
      have Q := Q'
      clear Q'
      have K1' := Lib.hid (K1.out.later hq)
      clear K1
      have K1 := K1'
      clear K1'
      have HT' := Lib.hid (HT.out.later hq)
      clear HT
      have HT := HT'
      clear HT'
      have HI' := Lib.hid (HI.out.later' hq)
      clear HI
      have HI := HI'
      clear HI'
      have BI' := Lib.hid (BI.out.later hq)
      clear BI
      have BI := BI'
      clear BI'
      have BO' := Lib.hid (BO.out.later hq)
      clear BO
      have BO := BO'
      clear BO'
      have HD' := Lib.hid (HD.out.later' hq)
      clear HD
      have HD := HD'
      clear HD'
      clear hq
      by_cases hj5 : j < 5
      · have hjI : (j : Int) < 5 := by omega
        have hj0 : (0 : Int) ≤ (j : Int) := by omega
        obtain ⟨tj, ja, jc, c0, c1, c2, hit, htc, hte⟩ := HFIV.out wr HQ.out j hj5
        have HJ := Lib.hid hj5
        have HIT := Lib.hid hit
        have HTB := Lib.hid (And.intro htc hte)
        have BJ := Lib.hid (Has.new wr 29 #[.bool tj.list, .string tj.bytes, .slice ja tj.kids.length jc])
        have HZ := Has.new wr 29 #[.bool false, .string ⟨#[]⟩, .slice none 0 0]
        have n0 := HZ.cell 0 _ rfl
        have n1 := HZ.cell 1 _ rfl
        have n2 := HZ.cell 2 _ rfl
        have g0 := HZ.frozen 0
        have g1 := HZ.frozen 1
        have g2 := HZ.frozen 2
        have hq := (Below.refl wr.heap.size wr).alloc (Nat.le_refl _) (.cells #[.bool tj.list, .string tj.bytes, .slice ja tj.kids.length jc] 29)
        clear hit htc hte hj hj5 HZ
        have HQ' := Lib.hid (HQ.out.trans (hq.mono HQ.out.size))
        clear HQ
        have HQ := HQ'
        clear HQ'
        have HIT' := Lib.hid (HIT.out.later' hq)
        clear HIT
        have HIT := HIT'
        clear HIT'
        have K1' := Lib.hid (K1.out.later hq)
        clear K1
        have K1 := K1'
        clear K1'
        have BI' := Lib.hid (BI.out.later hq)
        clear BI
        have BI := BI'
        clear BI'
        have HI' := Lib.hid (HI.out.later' hq)
        clear HI
        have HI := HI'
        clear HI'
        clear hq
        obtain ⟨y0, hy0⟩ : ∃ y0, wr.alloc (.cells #[.bool tj.list, .string tj.bytes, .slice ja tj.kids.length jc] 29) = y0 := ⟨_, rfl⟩
        rw [hy0] at BJ HQ HIT K1 BI HI
        have p0 := BJ.out.cell 0 _ rfl
        have p1 := BJ.out.cell 1 _ rfl
        have p2 := BJ.out.cell 2 _ rfl
        have hce := encode_any tj (by have := HTB.out.1; omega) (by have := HTB.out.2; omega) _ y0 HIT.out
        obtain ⟨eB, heB⟩ : ∃ x : ByteArray, (⟨(encS tj).toArray⟩ : ByteArray) = x := ⟨_, rfl⟩
        obtain ⟨nE, hnE⟩ : ∃ x : Int, ((encE tj : Nat) : Int) = x := ⟨_, rfl⟩
        rw [show strV (encS tj) = .string ⟨(encS tj).toArray⟩ from rfl, heB, hnE] at hce
        have HCE := Lib.hid hce
        have HEN := Lib.hid (And.intro heB hnE)
        clear hce heB hnE
        go_wp2_with fail
        refine HCE.out.mono ?_
        rintro _ y1 ⟨rfl, hq⟩
        have HQ' := Lib.hid (HQ.out.trans (hq.mono HQ.out.size))
        clear HQ
        have HQ := HQ'
        clear HQ'
        have HIT' := Lib.hid (HIT.out.later' hq)
        clear HIT
        have HIT := HIT'
        clear HIT'
        have K1' := Lib.hid (K1.out.later hq)
        clear K1
        have K1 := K1'
        clear K1'
        have BI' := Lib.hid (BI.out.later hq)
        clear BI
        have BI := BI'
        clear BI'
        have HI' := Lib.hid (HI.out.later' hq)
        clear HI
        have HI := HI'
        clear HI'
        have BJ' := Lib.hid (BJ.out.later hq)
        clear BJ
        have BJ := BJ'
        clear BJ'
        clear hq p0 p1 p2 HCE n0 n1 n2 g0 g1 g2 c0 c1 c2 hy0
        have p0 := BJ.out.cell 0 _ rfl
        have p1 := BJ.out.cell 1 _ rfl
        have p2 := BJ.out.cell 2 _ rfl
        have hce := refEncode_any tj (by have := HTB.out.2; omega) _ y1 HIT.out
        rw [show strV (encS tj) = .string ⟨(encS tj).toArray⟩ from rfl, HEN.out.1, HEN.out.2] at hce
        have HCE := Lib.hid hce
        clear hce
        go_wp2_with fail
        refine HCE.out.mono ?_
        rintro _ y2 ⟨rfl, hq⟩
        have HQ' := Lib.hid (HQ.out.trans (hq.mono HQ.out.size))
        clear HQ
        have HQ := HQ'
        clear HQ'
        have HIT' := Lib.hid (HIT.out.later' hq)
        clear HIT
        have HIT := HIT'
        clear HIT'
        have K1' := Lib.hid (K1.out.later hq)
        clear K1
        have K1 := K1'
        clear K1'
        have BI' := Lib.hid (BI.out.later hq)
        clear BI
        have BI := BI'
        clear BI'
        have HI' := Lib.hid (HI.out.later' hq)
        clear HI
        have HI := HI'
        clear HI'
        have BJ' := Lib.hid (BJ.out.later hq)
        clear BJ
        have BJ := BJ'
        clear BJ'
        clear hq p0 p1 p2 HCE
        have p0 := BJ.out.cell 0 _ rfl
        have p1 := BJ.out.cell 1 _ rfl
        have p2 := BJ.out.cell 2 _ rfl
        have hcv := value_any tj _ y2 HIT.out
        unfold wv at hcv
        have HCV := Lib.hid hcv
        clear hcv
        go_wp2_with fail
        refine HCV.out.mono ?_
        rintro _ y3 ⟨rfl, hq⟩
        have HQ' := Lib.hid (HQ.out.trans (hq.mono HQ.out.size))
        clear HQ
        have HQ := HQ'
        clear HQ'
        have HIT' := Lib.hid (HIT.out.later' hq)
        clear HIT
        have HIT := HIT'
        clear HIT'
        have K1' := Lib.hid (K1.out.later hq)
        clear K1
        have K1 := K1'
        clear K1'
        have BI' := Lib.hid (BI.out.later hq)
        clear BI
        have BI := BI'
        clear BI'
        have HI' := Lib.hid (HI.out.later' hq)
        clear HI
        have HI := HI'
        clear HI'
        have BJ' := Lib.hid (BJ.out.later hq)
        clear BJ
        have BJ := BJ'
        clear BJ'
        clear hq p0 p1 p2 HCV
        have HZ := Has.new y3 25 #[.int .u64 0, .int .u64 0, .int .u64 0, .int .u64 0]
        have n0 := HZ.cell 0 _ rfl
        have n1 := HZ.cell 1 _ rfl
        have n2 := HZ.cell 2 _ rfl
        have n3 := HZ.cell 3 _ rfl
        have g0 := HZ.frozen 0
        have g1 := HZ.frozen 1
        have g2 := HZ.frozen 2
        have g3 := HZ.frozen 3
        have BV := Lib.hid (Has.new y3 25 #[.int .u64 (lim (valN tj) 0), .int .u64 (lim (valN tj) 1), .int .u64 (lim (valN tj) 2), .int .u64 (lim (valN tj) 3)])
        have hq := (Below.refl y3.heap.size y3).alloc (Nat.le_refl _) (.cells #[.int .u64 (lim (valN tj) 0), .int .u64 (lim (valN tj) 1), .int .u64 (lim (valN tj) 2), .int .u64 (lim (valN tj) 3)] 25)
        have HQ' := Lib.hid (HQ.out.trans (hq.mono HQ.out.size))
        clear HQ
        have HQ := HQ'
        clear HQ'
        have HIT' := Lib.hid (HIT.out.later' hq)
        clear HIT
        have HIT := HIT'
        clear HIT'
        have K1' := Lib.hid (K1.out.later hq)
        clear K1
        have K1 := K1'
        clear K1'
        have BI' := Lib.hid (BI.out.later hq)
        clear BI
        have BI := BI'
        clear BI'
        have HI' := Lib.hid (HI.out.later' hq)
        clear HI
        have HI := HI'
        clear HI'
        have BJ' := Lib.hid (BJ.out.later hq)
        clear BJ
        have BJ := BJ'
        clear BJ'
        clear hq HZ
        have p0 := BJ.out.cell 0 _ rfl
        have p1 := BJ.out.cell 1 _ rfl
        have p2 := BJ.out.cell 2 _ rfl
        obtain ⟨y4, hy4⟩ : ∃ y4, y3.alloc (.cells #[.int .u64 (lim (valN tj) 0), .int .u64 (lim (valN tj) 1), .int .u64 (lim (valN tj) 2), .int .u64 (lim (valN tj) 3)] 25) = y4 := ⟨_, rfl⟩
        rw [hy4] at BV HQ HIT K1 BI HI BJ p0 p1 p2
        have hcv := refValue_any tj _ y4 HIT.out
        unfold wv at hcv
        have HCV := Lib.hid hcv
        clear hcv
        go_wp2_with fail
        refine HCV.out.mono ?_
        rintro _ y5 ⟨rfl, hq⟩
        clear n0 n1 n2 n3 g0 g1 g2 g3 hy4
        have HQ' := Lib.hid (HQ.out.trans (hq.mono HQ.out.size))
        clear HQ
        have HQ := HQ'
        clear HQ'
        have HIT' := Lib.hid (HIT.out.later' hq)
        clear HIT
        have HIT := HIT'
        clear HIT'
        have K1' := Lib.hid (K1.out.later hq)
        clear K1
        have K1 := K1'
        clear K1'
        have BI' := Lib.hid (BI.out.later hq)
        clear BI
        have BI := BI'
        clear BI'
        have HI' := Lib.hid (HI.out.later' hq)
        clear HI
        have HI := HI'
        clear HI'
        have BJ' := Lib.hid (BJ.out.later hq)
        clear BJ
        have BJ := BJ'
        clear BJ'
        have BV' := Lib.hid (BV.out.later hq)
        clear BV
        have BV := BV'
        clear BV'
        clear hq p0 p1 p2 HCV
        have HZ := Has.new y5 25 #[.int .u64 0, .int .u64 0, .int .u64 0, .int .u64 0]
        have n0 := HZ.cell 0 _ rfl
        have n1 := HZ.cell 1 _ rfl
        have n2 := HZ.cell 2 _ rfl
        have n3 := HZ.cell 3 _ rfl
        have g0 := HZ.frozen 0
        have g1 := HZ.frozen 1
        have g2 := HZ.frozen 2
        have g3 := HZ.frozen 3
        have BR := Lib.hid (Has.new y5 25 #[.int .u64 (lim (valN tj) 0), .int .u64 (lim (valN tj) 1), .int .u64 (lim (valN tj) 2), .int .u64 (lim (valN tj) 3)])
        have hq := (Below.refl y5.heap.size y5).alloc (Nat.le_refl _) (.cells #[.int .u64 (lim (valN tj) 0), .int .u64 (lim (valN tj) 1), .int .u64 (lim (valN tj) 2), .int .u64 (lim (valN tj) 3)] 25)
        have HQ' := Lib.hid (HQ.out.trans (hq.mono HQ.out.size))
        clear HQ
        have HQ := HQ'
        clear HQ'
        have HIT' := Lib.hid (HIT.out.later' hq)
        clear HIT
        have HIT := HIT'
        clear HIT'
        have K1' := Lib.hid (K1.out.later hq)
        clear K1
        have K1 := K1'
        clear K1'
        have BI' := Lib.hid (BI.out.later hq)
        clear BI
        have BI := BI'
        clear BI'
        have HI' := Lib.hid (HI.out.later' hq)
        clear HI
        have HI := HI'
        clear HI'
        have BJ' := Lib.hid (BJ.out.later hq)
        clear BJ
        have BJ := BJ'
        clear BJ'
        have BV' := Lib.hid (BV.out.later hq)
        clear BV
        have BV := BV'
        clear BV'
        clear hq HZ
        obtain ⟨y6, hy6⟩ : ∃ y6, y5.alloc (.cells #[.int .u64 (lim (valN tj) 0), .int .u64 (lim (valN tj) 1), .int .u64 (lim (valN tj) 2), .int .u64 (lim (valN tj) 3)] 25) = y6 := ⟨_, rfl⟩
        rw [hy6] at BV BR HQ HIT K1 BI HI BJ
        have G1 := Lib.hid (fun z : Ext y6 => Ext.at' (right_any tj _ z.w (HIT.out.later' z.below) (by have := HTB.out.1; omega)))
        have G2 := Lib.hid (fun z : Ext y6 => Ext.at' (refRight tj _ z.w (HIT.out.later' z.below)))
        have G3 := Lib.hid (fun z : Ext y6 => Ext.at' (psame tj ti _ _ z.w (HIT.out.later' z.below) (HI.out.later' z.below)))
        have G4 := Lib.hid (fun z : Ext y6 => Ext.at' (refSame tj ti _ _ z.w (HIT.out.later' z.below) (HI.out.later' z.below)))
        generalize okI tj = okj at G1 G2
        generalize sameI tj ti = smj at G3 G4
        have p0 := fun z : Ext y6 => (BJ.out.later z.below).cell 0 _ rfl
        have i0 := fun z : Ext y6 => (BI.out.later z.below).cell 0 _ rfl
        have p1 := fun z : Ext y6 => (BJ.out.later z.below).cell 1 _ rfl
        have i1 := fun z : Ext y6 => (BI.out.later z.below).cell 1 _ rfl
        have p2 := fun z : Ext y6 => (BJ.out.later z.below).cell 2 _ rfl
        have i2 := fun z : Ext y6 => (BI.out.later z.below).cell 2 _ rfl
        have a0 := fun z : Ext y6 => (BV.out.later z.below).cell 0 _ rfl
        have b0 := fun z : Ext y6 => (BR.out.later z.below).cell 0 _ rfl
        have a1 := fun z : Ext y6 => (BV.out.later z.below).cell 1 _ rfl
        have b1 := fun z : Ext y6 => (BR.out.later z.below).cell 1 _ rfl
        have a2 := fun z : Ext y6 => (BV.out.later z.below).cell 2 _ rfl
        have b2 := fun z : Ext y6 => (BR.out.later z.below).cell 2 _ rfl
        have a3 := fun z : Ext y6 => (BV.out.later z.below).cell 3 _ rfl
        have b3 := fun z : Ext y6 => (BR.out.later z.below).cell 3 _ rfl
        generalize valB tj = vbj at *
        generalize lim (valN tj) 0 = v0 at *
        generalize lim (valN tj) 1 = v1 at *
        generalize lim (valN tj) 2 = v2 at *
        generalize lim (valN tj) 3 = v3 at *
        go_wp2_with fail
        clear n0 n1 n2 n3 g0 g1 g2 g3 hy6
        refine wp_region_quietL (C := Grows y6) hmx (by kernel_rfl) (grows_refl y6) ?_
        repeat (go_big_quiet_step (first | (with_reducible exact G1.out _) | (with_reducible exact G2.out _) | (with_reducible exact G3.out _) | (with_reducible exact G4.out _)))
        refine wpQuiet_nil ?_
        rintro _ ⟨z, rfl⟩
        have HE := Lib.hid (HQ.out.trans (z.below.mono HQ.out.size))
        clear p0 p1 p2 i0 i1 i2 a0 a1 a2 a3 b0 b1 b2 b3 G1 G2 G3 G4
        go_wp2_with fail
        go_roundw
        case rel => exact ⟨j + 1, by have := HJ.out; omega, by simp, HE.out⟩
        case measure => have := HJ.out; simp [intOf]; omega
      · have hjI : ¬ (j : Int) < 5 := by omega
        clear hj hj5 HFIV HQ
        go_wp2_with fail
        have HN1 := number_ret wn HWN.out
        have HN2 := refNum_ret wn HWN.out
        unfold wv txtV at HN1 HN2
        replace HN1 := Lib.hid HN1
        replace HN2 := Lib.hid HN2
        have TN := Lib.hid (fun (y : World) => txt_at (digs wn) (by have := digs_w HWN.out; omega) y)
        have TX := Lib.hid (fun (y : World) => (show ItemAt y (.mk false xB []) (.agg #[.bool false, .string xB, .slice none 0 0]) from by unfold ItemAt; exact ⟨none, 0, rfl, by simp, by have := HXS.out; omega, .inl rfl⟩))
        obtain ⟨w6, hw6⟩ : ∃ w6, w6 = wr := ⟨_, rfl⟩
        subst hw6
        refine Late.wp_region_ghost [some (.agg #[.int .u64 (lim wn 0), .int .u64 (lim wn 1), .int .u64 (lim wn 2), .int .u64 (lim wn 3)]), some (.agg #[.bool false, .string ⟨(digs wn).toArray⟩, .slice none 0 0]), some (.agg #[.int .u64 (lim wn 0), .int .u64 (lim wn 1), .int .u64 (lim wn 2), .int .u64 (lim wn 3)]), some (.agg #[.bool false, .string ⟨(digs wn).toArray⟩, .slice none 0 0]), some (.bool true), some (.bool false), some (.bool false), some (.string xB), some (.agg #[.bool false, .string xB, .slice none 0 0]), some (.string xB), some (.agg #[.bool false, .string xB, .slice none 0 0]), some (.bool true), some (.bool false), some (.bool false), some (.bool false), some (.agg #[.bool ti.list, .string ti.bytes, .slice ia ti.kids.length ic]), some (.agg #[.bool ti.list, .string ti.bytes, .slice ia ti.kids.length ic]), none, none, some (.agg #[.bool ti.list, .string ti.bytes, .slice ia ti.kids.length ic]), some (.agg #[.bool ti.list, .string ti.bytes, .slice ia ti.kids.length ic]), none, none, some (.bool true), some (.bool false), some (.bool false)] [[], [0], [], [0, 1, 2], [0, 1, 2, 3], [0, 1, 2, 3, 4], [0, 1, 2, 3, 4, 5], [0, 1, 2, 3, 4, 5, 6], [0, 1, 2, 3, 4, 5, 6, 7], [0, 1, 2, 3, 4, 5, 6], [0, 1, 2, 3, 4, 5, 6, 7, 8, 9], [0, 1, 2, 3, 4, 5, 6, 7, 8, 9, 10], [0, 1, 2, 3, 4, 5, 6, 7, 8, 9, 10, 11], [0, 1, 2, 3, 4, 5, 6, 7, 8, 9, 10, 11, 12], [0, 1, 2, 3, 4, 5, 6, 7, 8, 9, 10, 11, 12, 13], [0, 1, 2, 3, 4, 5, 6, 7, 8, 9, 10, 11, 12, 13, 14], [0, 1, 2, 3, 4, 5, 6, 7, 8, 9, 10, 11, 12, 13, 14], [0, 1, 2, 3, 4, 5, 6, 7, 8, 9, 10, 11, 12, 13, 14, 15, 16], [0, 1, 2, 3, 4, 5, 6, 7, 8, 9, 10, 11, 12, 13, 14, 15, 16, 17], [0, 1, 2, 3, 4, 5, 6, 7, 8, 9, 10, 11, 12, 13, 14], [0, 1, 2, 3, 4, 5, 6, 7, 8, 9, 10, 11, 12, 13, 14], [0, 1, 2, 3, 4, 5, 6, 7, 8, 9, 10, 11, 12, 13, 14, 19, 20], [0, 1, 2, 3, 4, 5, 6, 7, 8, 9, 10, 11, 12, 13, 14, 15, 16, 17, 18, 19, 20, 21], [0, 1, 2, 3, 4, 5, 6, 7, 8, 9, 10, 11, 12, 13, 14, 15, 16, 17, 18, 19, 20, 21, 22], [0, 1, 2, 3, 4, 5, 6, 7, 8, 9, 10, 11, 12, 13, 14, 15, 16, 17, 18, 19, 20, 21, 22, 23], [0, 1, 2, 3, 4, 5, 6, 7, 8, 9, 10, 11, 12, 13, 14, 15, 16, 17, 18, 19, 20, 21, 22, 23, 24]] (TwiU w6 ti #[.bool ti.list, .string ti.bytes, .slice ia ti.kids.length ic, .bool ti.list, .string ti.bytes, .slice ia ti.kids.length ic]) (by kernel_rfl) (by kernel_rfl) (by kernel_rfl) (fun f g wa wb h hb => h.later hb) (fun f f' g g' wa h hh => hh.same (h 17 rfl) (h 18 rfl) (h 21 rfl) (h 22 rfl)) TwiU.start ?_
        rintro f g y hU0 Dn
        have hU := Lib.hid hU0
        clear hU0
        refine GW.known _ rfl (fun hd hf => ?_) ?_
        · have hz := K1.out.later hU.out.1
          have q0 := hz.cell 0 _ rfl
          have q1 := hz.cell 1 _ rfl
          have q2 := hz.cell 2 _ rfl
          have q3 := hz.cell 3 _ rfl
          clear hz
          go_wp2
          exact ⟨rfl, rfl, Below.refl _ _⟩
        simp only [Act.put, List.setIfInBounds_toArray, List.set_cons_succ, List.set_cons_zero]
        refine GW.known _ rfl (fun hd hf => ?_) ?_
        · have HC0 := HN1.out y
          go_wp2_with fail
          refine HC0.mono ?_
          rintro e u ⟨rfl, hb⟩
          go_wp2
          exact ⟨rfl, rfl, hb⟩
        simp only [Act.put, List.setIfInBounds_toArray, List.set_cons_succ, List.set_cons_zero]
        refine GW.known _ rfl (fun hd hf => ?_) ?_
        · have hz := K1.out.later hU.out.1
          have q0 := hz.cell 0 _ rfl
          have q1 := hz.cell 1 _ rfl
          have q2 := hz.cell 2 _ rfl
          have q3 := hz.cell 3 _ rfl
          clear hz
          go_wp2
          exact ⟨rfl, rfl, Below.refl _ _⟩
        simp only [Act.put, List.setIfInBounds_toArray, List.set_cons_succ, List.set_cons_zero]
        refine GW.known _ rfl (fun hd hf => ?_) ?_
        · have HC0 := HN2.out y
          go_wp2_with fail
          refine HC0.mono ?_
          rintro e u ⟨rfl, hb⟩
          go_wp2
          exact ⟨rfl, rfl, hb⟩
        simp only [Act.put, List.setIfInBounds_toArray, List.set_cons_succ, List.set_cons_zero]
        refine GW.known _ rfl (fun hd hf => ?_) ?_
        · have HC0 := (rsame_self (it := .mk false ⟨(digs wn).toArray⟩ []) refSame (TN.out y) (TN.out y))
          go_wp2_with fail
          refine HC0.mono ?_
          rintro e u ⟨rfl, hb⟩
          go_wp2
          exact ⟨rfl, rfl, hb⟩
        simp only [Act.put, List.setIfInBounds_toArray, List.set_cons_succ, List.set_cons_zero]
        refine GW.known _ rfl (fun hd hf => ?_) ?_
        · go_wp2
          exact ⟨rfl, rfl, Below.refl _ _⟩
        simp only [Act.put, List.setIfInBounds_toArray, List.set_cons_succ, List.set_cons_zero]
        refine GW.known _ rfl (fun hd hf => ?_) ?_
        · go_wp2
          exact ⟨rfl, rfl, Below.refl _ _⟩
        simp only [Act.put, List.setIfInBounds_toArray, List.set_cons_succ, List.set_cons_zero]
        refine GW.known _ rfl (fun hd hf => ?_) ?_
        · go_wp2
          exact ⟨rfl, rfl, Below.refl _ _⟩
        simp only [Act.put, List.setIfInBounds_toArray, List.set_cons_succ, List.set_cons_zero]
        refine GW.known _ rfl (fun hd hf => ?_) ?_
        · have HC0 := text_any xB y
          go_wp2_with fail
          refine HC0.mono ?_
          rintro e u ⟨rfl, hb⟩
          go_wp2
          exact ⟨rfl, rfl, hb⟩
        simp only [Act.put, List.setIfInBounds_toArray, List.set_cons_succ, List.set_cons_zero]
        refine GW.known _ rfl (fun hd hf => ?_) ?_
        · go_wp2
          exact ⟨rfl, rfl, Below.refl _ _⟩
        simp only [Act.put, List.setIfInBounds_toArray, List.set_cons_succ, List.set_cons_zero]
        refine GW.known _ rfl (fun hd hf => ?_) ?_
        · have HC0 := refText_any xB y
          go_wp2_with fail
          refine HC0.mono ?_
          rintro e u ⟨rfl, hb⟩
          go_wp2
          exact ⟨rfl, rfl, hb⟩
        simp only [Act.put, List.setIfInBounds_toArray, List.set_cons_succ, List.set_cons_zero]
        refine GW.known _ rfl (fun hd hf => ?_) ?_
        · have HC0 := (rsame_self (it := .mk false xB []) refSame (TX.out y) (TX.out y))
          go_wp2_with fail
          refine HC0.mono ?_
          rintro e u ⟨rfl, hb⟩
          go_wp2
          exact ⟨rfl, rfl, hb⟩
        simp only [Act.put, List.setIfInBounds_toArray, List.set_cons_succ, List.set_cons_zero]
        refine GW.known _ rfl (fun hd hf => ?_) ?_
        · go_wp2
          exact ⟨rfl, rfl, Below.refl _ _⟩
        simp only [Act.put, List.setIfInBounds_toArray, List.set_cons_succ, List.set_cons_zero]
        refine GW.known _ rfl (fun hd hf => ?_) ?_
        · go_wp2
          exact ⟨rfl, rfl, Below.refl _ _⟩
        simp only [Act.put, List.setIfInBounds_toArray, List.set_cons_succ, List.set_cons_zero]
        refine GW.known _ rfl (fun hd hf => ?_) ?_
        · go_wp2
          exact ⟨rfl, rfl, Below.refl _ _⟩
        simp only [Act.put, List.setIfInBounds_toArray, List.set_cons_succ, List.set_cons_zero]
        refine GW.known _ rfl (fun hd hf => ?_) ?_
        · have hz := BI.out.later hU.out.1
          have q0 := hz.cell 0 _ rfl
          have q1 := hz.cell 1 _ rfl
          have q2 := hz.cell 2 _ rfl
          clear hz
          go_wp2
          exact ⟨rfl, rfl, Below.refl _ _⟩
        simp only [Act.put, List.setIfInBounds_toArray, List.set_cons_succ, List.set_cons_zero]
        refine GW.known _ rfl (fun hd hf => ?_) ?_
        · have hz := BI.out.later hU.out.1
          have q0 := hz.cell 0 _ rfl
          have q1 := hz.cell 1 _ rfl
          have q2 := hz.cell 2 _ rfl
          clear hz
          go_wp2
          exact ⟨rfl, rfl, Below.refl _ _⟩
        simp only [Act.put, List.setIfInBounds_toArray, List.set_cons_succ, List.set_cons_zero]
        refine GW.open rfl (fun hd hf => ?_) ?_
        · have K := Lib.hid (hU.out.one (by cases h : f 18 with | false => rfl | true => exact absurd (Dn 18 h 17 (by decide)) (by rw [hf]; simp)) (by cases h : f 22 with | false => rfl | true => exact absurd (Dn 22 h 17 (by decide)) (by rw [hf]; simp)))
          go_wp2
          exact ⟨rfl, K.out⟩
        simp only [Act.put, List.setIfInBounds_toArray, List.set_cons_succ, List.set_cons_zero]
        refine GW.open rfl (fun hd hf => ?_) ?_
        · obtain ⟨B, e, hB⟩ := hU.out.2.1 (hd 17 (by decide)) hf
          have HL := Lib.hid (list_any [ti, ti] (some ⟨B, 0, none⟩) 2 y (kids_two hB (HI.out.later' hU.out.1) (HI.out.later' hU.out.1)) (by simp))
          have hU2 := Lib.hid (fun (y2 : World) (vl : Value) => hU.out.list (y2 := y2) (vl := vl) (hd 17 (by decide)))
          rw [show g (0 + 1 + 1 + 1 + 1 + 1 + 1 + 1 + 1 + 1 + 1 + 1 + 1 + 1 + 1 + 1 + 1 + 1) = .slice (some ⟨B, 0, none⟩) 2 2 from e]
          clear e hB
          go_wp2_with fail
          refine HL.out.mono ?_
          rintro _ y2 ⟨la, lc, rfl, hit, hb⟩
          have K := Lib.hid (hU2.out y2 _ hb hit.at)
          clear hit hb
          go_wp2
          exact ⟨rfl, K.out⟩
        simp only [Act.put, List.setIfInBounds_toArray, List.set_cons_succ, List.set_cons_zero]
        refine GW.known _ rfl (fun hd hf => ?_) ?_
        · have hz := BI.out.later hU.out.1
          have q0 := hz.cell 0 _ rfl
          have q1 := hz.cell 1 _ rfl
          have q2 := hz.cell 2 _ rfl
          clear hz
          go_wp2
          exact ⟨rfl, rfl, Below.refl _ _⟩
        simp only [Act.put, List.setIfInBounds_toArray, List.set_cons_succ, List.set_cons_zero]
        refine GW.known _ rfl (fun hd hf => ?_) ?_
        · have hz := BI.out.later hU.out.1
          have q0 := hz.cell 0 _ rfl
          have q1 := hz.cell 1 _ rfl
          have q2 := hz.cell 2 _ rfl
          clear hz
          go_wp2
          exact ⟨rfl, rfl, Below.refl _ _⟩
        simp only [Act.put, List.setIfInBounds_toArray, List.set_cons_succ, List.set_cons_zero]
        refine GW.open rfl (fun hd hf => ?_) ?_
        · have K := Lib.hid (hU.out.two (by cases h : f 22 with | false => rfl | true => exact absurd (Dn 22 h 21 (by decide)) (by rw [hf]; simp)))
          go_wp2
          exact ⟨rfl, K.out⟩
        simp only [Act.put, List.setIfInBounds_toArray, List.set_cons_succ, List.set_cons_zero]
        refine GW.open rfl (fun hd hf => ?_) ?_
        · obtain ⟨B, e, hB⟩ := hU.out.2.2.2.1 (hd 21 (by decide)) hf
          have hU2 := Lib.hid (fun (y2 : World) => hU.out.list2 (y2 := y2) (hd 21 (by decide)) hf e)
          have HL := Lib.hid (refList_any (some ⟨B, 0, none⟩) 2 2 y)
          rw [show g (0 + 1 + 1 + 1 + 1 + 1 + 1 + 1 + 1 + 1 + 1 + 1 + 1 + 1 + 1 + 1 + 1 + 1 + 1 + 1 + 1 + 1) = .slice (some ⟨B, 0, none⟩) 2 2 from e]
          clear e hB
          go_wp2_with fail
          refine HL.out.mono ?_
          rintro _ y2 ⟨rfl, hb⟩
          have K := Lib.hid (hU2.out y2 hb)
          clear hb
          go_wp2
          exact ⟨rfl, K.out⟩
        simp only [Act.put, List.setIfInBounds_toArray, List.set_cons_succ, List.set_cons_zero]
        refine GW.known _ rfl (fun hd hf => ?_) ?_
        · obtain ⟨la, lc, e1, h1⟩ := hU.out.2.2.1 (hd 18 (by decide))
          obtain ⟨B, e2, hB⟩ := hU.out.2.2.2.2 (hd 22 (by decide))
          have h2 := two_item hB (HI.out.later' hU.out.1) (HI.out.later' hU.out.1)
          rw [e1] at h1
          have HC0 := Lib.hid (rsame_self (it := .mk true ⟨#[]⟩ [ti, ti]) refSame h1 h2)
          rw [show g (0 + 1 + 1 + 1 + 1 + 1 + 1 + 1 + 1 + 1 + 1 + 1 + 1 + 1 + 1 + 1 + 1 + 1 + 1) = .agg #[.bool true, .string ⟨#[]⟩, .slice la 2 lc] from e1, show g (0 + 1 + 1 + 1 + 1 + 1 + 1 + 1 + 1 + 1 + 1 + 1 + 1 + 1 + 1 + 1 + 1 + 1 + 1 + 1 + 1 + 1 + 1) = .agg #[.bool true, .string ⟨#[]⟩, .slice (some ⟨B, 0, none⟩) 2 2] from e2]
          clear e1 e2 h1 h2 hB
          go_wp2_with fail
          refine HC0.out.mono ?_
          rintro e u ⟨rfl, hb⟩
          go_wp2
          exact ⟨rfl, rfl, hb⟩
        simp only [Act.put, List.setIfInBounds_toArray, List.set_cons_succ, List.set_cons_zero]
        refine GW.known _ rfl (fun hd hf => ?_) ?_
        · go_wp2
          exact ⟨rfl, rfl, Below.refl _ _⟩
        simp only [Act.put, List.setIfInBounds_toArray, List.set_cons_succ, List.set_cons_zero]
        refine GW.known _ rfl (fun hd hf => ?_) ?_
        · go_wp2
          exact ⟨rfl, rfl, Below.refl _ _⟩
        simp only [Act.put, List.setIfInBounds_toArray, List.set_cons_succ, List.set_cons_zero]
        refine GW.nil (fun hall => ?_)
        have hq := hU.out.1
        obtain ⟨x17, hx17⟩ : ∃ x, g 17 = x := ⟨_, rfl⟩
        obtain ⟨x18, hx18⟩ : ∃ x, g 18 = x := ⟨_, rfl⟩
        obtain ⟨x21, hx21⟩ : ∃ x, g 21 = x := ⟨_, rfl⟩
        obtain ⟨x22, hx22⟩ : ∃ x, g 22 = x := ⟨_, rfl⟩
        rw [hx17, hx18, hx21, hx22]
        clear hx17 hx18 hx21 hx22
        have Q' := Lib.hid (Q.out.trans (hq.mono Q.out.size))
        clear Q
        have Q := Q'
        clear Q'
        have K1' := Lib.hid (K1.out.later hq)
        clear K1
        have K1 := K1'
        clear K1'
        have HT' := Lib.hid (HT.out.later hq)
        clear HT
        have HT := HT'
        clear HT'
        have HI' := Lib.hid (HI.out.later' hq)
        clear HI
        have HI := HI'
        clear HI'
        have BI' := Lib.hid (BI.out.later hq)
        clear BI
        have BI := BI'
        clear BI'
        clear hU Dn hall hq HN1 HN2 TN TX
        obtain ⟨w7, hw7⟩ : ∃ w7, w7 = y := ⟨_, rfl⟩
        subst hw7
        have p0 := BI.out.cell 0 _ rfl
        have p1 := BI.out.cell 1 _ rfl
        have p2 := BI.out.cell 2 _ rfl
        obtain ⟨tB, htB⟩ : ∃ tB : ByteArray, (⟨(encI ti).toArray⟩ : ByteArray) = tB := ⟨_, rfl⟩
        have HEN := refEnc_good' ti HIB.out.1 (by have := HIB.out.2.2; omega) _ w7 HI.out
        rw [htB] at HEN
        have HE := Lib.hid HEN
        have Hts := Lib.hid (show tB.size ≤ 40448 from by rw [← htB]; show (encI ti).toArray.size ≤ _; rw [List.size_toArray]; exact HIB.out.2.2)
        clear HEN htB
        go_wp2_with fail
        refine HE.out.mono ?_
        rintro _ w8 ⟨rfl, hq⟩
        clear HE p0 p1 p2
        have Q' := Lib.hid (Q.out.trans (hq.mono Q.out.size))
        clear Q
        have Q := Q'
        clear Q'
        have K1' := Lib.hid (K1.out.later hq)
        clear K1
        have K1 := K1'
        clear K1'
        have HT' := Lib.hid (HT.out.later hq)
        clear HT
        have HT := HT'
        clear HT'
        have HI' := Lib.hid (HI.out.later' hq)
        clear HI
        have HI := HI'
        clear HI'
        have BI' := Lib.hid (BI.out.later hq)
        clear BI
        have BI := BI'
        clear BI'
        clear hq
        obtain ⟨kk, hk, hk2⟩ : ∃ k : Nat, pickN c (((tB.size : Nat) : Int) + 1) = (k : Int) ∧ k ≤ tB.size := ⟨(pickN c (((tB.size : Nat) : Int) + 1)).toNat, by have := pickN_range c (((tB.size : Nat) : Int) + 1) (by omega); omega, by have := pickN_range c (((tB.size : Nat) : Int) + 1) (by omega); omega⟩
        have HP0 := pick_ret c HCI.out (((tB.size : Nat) : Int) + 1) (by omega) (by have := Hts.out; omega)
        rw [hk] at HP0
        have HP := Lib.hid HP0
        have HK := Lib.hid hk2
        have htI : ((tB.size : Nat) : Int) ≤ 40448 := by have := Hts.out; omega
        clear HP0 hk hk2
        go_wp2_with fail
        refine (HP.out _).mono ?_
        rintro _ w9 ⟨rfl, hq⟩
        clear HP
        have Q' := Lib.hid (Q.out.trans (hq.mono Q.out.size))
        clear Q
        have Q := Q'
        clear Q'
        have K1' := Lib.hid (K1.out.later hq)
        clear K1
        have K1 := K1'
        clear K1'
        have HT' := Lib.hid (HT.out.later hq)
        clear HT
        have HT := HT'
        clear HT'
        have HI' := Lib.hid (HI.out.later' hq)
        clear HI
        have HI := HI'
        clear HI'
        have BI' := Lib.hid (BI.out.later hq)
        clear BI
        have BI := BI'
        clear BI'
        clear hq
        go_upto_region 21 with fail
        go_cut [30] from 30 to 231 (fun u wx => w9 = wx ∧ ∃ r : ByteArray, u = .string r ∧ r.size ≤ 9)
        case first =>
          by_cases h9 : more.size ≤ 9
          · have h9I : (more.size : Int) ≤ 9 := by omega
            have H9 := Lib.hid h9
            clear h9
            go_wp2_with fail
            go_meet
            exact ⟨rfl, _, rfl, H9.out⟩
          · have h9I : ¬ (more.size : Int) ≤ 9 := by omega
            have h9N : 9 ≤ more.size := by omega
            have H9 := Lib.hid (show (more.extract 0 9).size ≤ 9 from by rw [ByteArray.size_extract]; omega)
            clear h9
            go_wp2_with fail
            go_meet
            exact ⟨rfl, _, rfl, H9.out⟩
        case rest =>
          obtain ⟨rfl, r, rfl, hr9⟩ := hcut
          have HR1 := Lib.hid hr9
          have hkI : (kk : Int) ≤ ((tB.size : Nat) : Int) := by have := HK.out; omega
          have hkt : kk ≤ tB.size := HK.out
          have hk0 : (0 : Int) ≤ (kk : Int) := by omega
          obtain ⟨pB, hpB⟩ : ∃ pB, tB.extract 0 kk = pB := ⟨_, rfl⟩
          obtain ⟨qB, hqB⟩ : ∃ qB, tB.extract kk tB.size = qB := ⟨_, rfl⟩
          have hps : pB.size ≤ 40448 := by rw [← hpB, ByteArray.size_extract]; have := Hts.out; omega
          have hqs : qB.size ≤ 40448 := by rw [← hqB, ByteArray.size_extract]; have := Hts.out; omega
          obtain ⟨kr, hkr⟩ : ∃ kr : Nat, (kk : Int) + ((r.size : Nat) : Int) = (kr : Int) := ⟨kk + r.size, by omega⟩
          obtain ⟨eB, heB, hes⟩ : ∃ eB : ByteArray, ((kr : Int) ≤ ((tB.size : Nat) : Int) ∧ tB.extract kr tB.size = eB ∨ ¬ (kr : Int) ≤ ((tB.size : Nat) : Int) ∧ tB.extract tB.size tB.size = eB) ∧ eB.size ≤ 40448 := by
            rcases Nat.lt_or_ge tB.size kr with h | h
            · exact ⟨_, .inr ⟨by omega, rfl⟩, by rw [ByteArray.size_extract]; have := Hts.out; omega⟩
            · exact ⟨_, .inl ⟨by omega, rfl⟩, by rw [ByteArray.size_extract]; have := Hts.out; omega⟩
          have n1 : ¬ 9223372036854775807 < pB.size + r.size := by omega
          have n2 : ¬ 9223372036854775807 < pB.size + r.size + qB.size := by omega
          have n3 : ¬ 9223372036854775807 < pB.size + r.size + eB.size := by omega
          have hrI : ((r.size : Nat) : Int) ≤ 9 := by omega
          have hr0 : (0 : Int) ≤ ((r.size : Nat) : Int) := by omega
          have hkr0 : (0 : Int) ≤ (kr : Int) := by omega
          have hkrI : (kr : Int) ≤ 40457 := by omega
          have HY1 := Lib.hid (show (pB ++ r ++ qB).size ≤ 100000 by rw [ByteArray.size_append, ByteArray.size_append]; omega)
          have HY2 := Lib.hid (show (pB ++ r ++ eB).size ≤ 100000 by rw [ByteArray.size_append, ByteArray.size_append]; omega)
          have HY3 := Lib.hid (show (pB ++ r).size ≤ 100000 by rw [ByteArray.size_append]; omega)
          have HY4 := Lib.hid (show pB.size ≤ 100000 ∧ tB.size ≤ 100000 ∧ xB.size ≤ 100000 by have := Hts.out; have := HXS.out; omega)
          clear hps hqs hes hr9
          go_wp2_with fail
          rcases heB with ⟨hm, heB⟩ | ⟨hm, heB⟩
          · refine wp_region_mix (C := Grows w9) [some true, some true, some true, some true, some true, some true, some true, some true, some true, some true, some true, some true, some true, some true, some true, some true, some true, some true, some true, some true, some true, some true, some true, some true, some true, some true, some true, some true, some true, none, none, some false] hmx (by kernel_rfl) (by kernel_rfl) (grows_refl _) ?_
            simp only [headOf, tailOf]
            repeat (go_big_quiet_step (fail))
            refine wpQuiet_nil ?_
            rintro _ ⟨x, rfl⟩
            have NB := Has.new x.w 9 #[.string xB, .string tB, .string (pB ++ r ++ qB), .string (pB ++ r ++ eB), .string pB]
            have q5 := (Below.refl x.w.heap.size x.w).alloc (Nat.le_refl _) (.cells #[.string xB, .string tB, .string (pB ++ r ++ qB), .string (pB ++ r ++ eB), .string pB] 9)
            have hq := x.below.trans (q5.mono x.below.size)
            have HT' := Lib.hid (HT.out.later hq)
            have Q' := Lib.hid (Q.out.trans (hq.mono Q.out.size))
            clear HT Q K1 HI BI
            have HT := HT'
            have Q := Q'
            clear HT' Q'
            replace NB := Lib.hid NB
            clear q5 hq n1 n2 n3 hrI hr0 hkr0 hkrI hkr hqB hpB hkI hkt hk0 heB hm
            go_wp2_with fail
            rw [calmPost_normal]
            go_wp2_with fail
            obtain ⟨W5, hW5⟩ : ∃ W5, x.w.alloc (.cells #[.string xB, .string tB, .string (pB ++ r ++ qB), .string (pB ++ r ++ eB), .string pB] 9) = W5 := ⟨_, rfl⟩
            rw [hW5] at NB HT Q ⊢
            clear hW5
            generalize x.w.heap.size = B at *
            clear x
            go_loopw [199] (fun i wr => ∃ j : Nat, j ≤ 5 ∧ i = .int .i64 (j : Int) ∧ Has wr B 9 #[.string xB, .string tB, .string (pB ++ r ++ qB), .string (pB ++ r ++ eB), .string pB] ∧ TabE wr ∧ Below w.heap.size w wr) (fun i _ => 5 - (intOf i).toNat)
            case atStart => exact ⟨0, by omega, rfl, NB.out, HT.out, Q.out⟩
            case round =>
              clear NB HT Q
              obtain ⟨j, hj, rfl, hb, ht, hq⟩ := hrel
              by_cases hj5 : j < 5
              · have hjI : (j : Int) < 5 := by omega
                have hj0 : (0 : Int) ≤ (j : Int) := by omega
                obtain ⟨y, hcell, hys⟩ : ∃ y : ByteArray, wr.cell? ⟨B, j, none⟩ = some (.string y) ∧ y.size ≤ 100000 := by
                  obtain rfl | rfl | rfl | rfl | rfl : j = 0 ∨ j = 1 ∨ j = 2 ∨ j = 3 ∨ j = 4 := by omega
                  · exact ⟨_, hb.cell 0 _ rfl, HY4.out.2.2⟩
                  · exact ⟨_, hb.cell 1 _ rfl, HY4.out.2.1⟩
                  · exact ⟨_, hb.cell 2 _ rfl, HY1.out⟩
                  · exact ⟨_, hb.cell 3 _ rfl, HY2.out⟩
                  · exact ⟨_, hb.cell 4 _ rfl, HY4.out.1⟩
                have HB := Lib.hid hb
                have HQ := Lib.hid hq
                have HTT := Lib.hid ht
                have HD := Lib.hid (decode_any y (by omega) wr ht)
                have HD2 := Lib.hid (fun X => refDecode_any y (by omega) X)
                have HJ := Lib.hid hj5
                clear hb hq ht hj hj5 hys HY1 HY2 HY3 HY4
                generalize hdr : decR y = dr at HD HD2
                clear hdr
                go_wp2_with fail
                refine HD.out.mono ?_
                intro e W6 hdp
                clear HD hcell
                obtain ⟨da, dc, rfl, hit, hqa⟩ := dec_told hdp
                obtain ⟨dt, hdt⟩ : ∃ x, decT dr = x := ⟨_, rfl⟩
                obtain ⟨dx, hdx⟩ : ∃ x, decX dr = x := ⟨_, rfl⟩
                obtain ⟨dn, hdn⟩ : ∃ x, decN dr = x := ⟨_, rfl⟩
                rw [hdt] at hit
                rw [hdt, hdx, hdn]
                have HDD := Lib.hid (And.intro hdt (And.intro hdx hdn))
                clear hdp hdt hdx hdn
                have HZ := Has.new W6 29 #[.bool false, .string ⟨#[]⟩, .slice none 0 0]
                have n0 := HZ.cell 0 _ rfl
                have n1 := HZ.cell 1 _ rfl
                have n2 := HZ.cell 2 _ rfl
                have g0 := HZ.frozen 0
                have g1 := HZ.frozen 1
                have g2 := HZ.frozen 2
                have HAn := Has.new W6 29 #[.bool dt.list, .string dt.bytes, .slice da dt.kids.length dc]
                have hal := (Below.refl W6.heap.size W6).alloc (Nat.le_refl _) (.cells #[.bool dt.list, .string dt.bytes, .slice da dt.kids.length dc] 29)
                have hq7 := hqa.trans (hal.mono hqa.size)
                have hitA0 := hit.later' hal
                obtain ⟨W7, hW7⟩ : ∃ W7, W6.alloc (.cells #[.bool dt.list, .string dt.bytes, .slice da dt.kids.length dc] 29) = W7 := ⟨_, rfl⟩
                rw [hW7] at HAn hq7 hitA0
                have HA0 := Lib.hid HAn
                have HIA := Lib.hid hitA0
                have HB1 := Lib.hid (HB.out.later hq7)
                have HTT1 := Lib.hid (HTT.out.later hq7)
                have HQ1 := Lib.hid (HQ.out.trans (hq7.mono HQ.out.size))
                clear HZ HAn hal hq7 hitA0 hit hqa HB HTT HQ
                go_wp2_with fail
                refine (HD2.out _).mono ?_
                intro e W8 hdp
                obtain ⟨ea, ec, rfl, hit2, hqb⟩ := dec_told hdp
                rw [HDD.out.1] at hit2
                rw [HDD.out.1, HDD.out.2.1, HDD.out.2.2]
                clear hdp HD2 n0 n1 n2 g0 g1 g2 hW7
                have HZ := Has.new W8 29 #[.bool false, .string ⟨#[]⟩, .slice none 0 0]
                have n0 := HZ.cell 0 _ rfl
                have n1 := HZ.cell 1 _ rfl
                have n2 := HZ.cell 2 _ rfl
                have g0 := HZ.frozen 0
                have g1 := HZ.frozen 1
                have g2 := HZ.frozen 2
                have HBn := Has.new W8 29 #[.bool dt.list, .string dt.bytes, .slice ea dt.kids.length ec]
                have hal := (Below.refl W8.heap.size W8).alloc (Nat.le_refl _) (.cells #[.bool dt.list, .string dt.bytes, .slice ea dt.kids.length ec] 29)
                have hq9 := hqb.trans (hal.mono hqb.size)
                have hitB := hit2.later' hal
                obtain ⟨W9, hW9⟩ : ∃ W9, W8.alloc (.cells #[.bool dt.list, .string dt.bytes, .slice ea dt.kids.length ec] 29) = W9 := ⟨_, rfl⟩
                rw [hW9] at HBn hq9 hitB
                have HBx := Lib.hid HBn
                have HA := Lib.hid (HA0.out.later hq9)
                have hitA := HIA.out.later' hq9
                have HB2 := Lib.hid (HB1.out.later hq9)
                have HTT2 := Lib.hid (HTT1.out.later hq9)
                have HQ2 := Lib.hid (HQ1.out.trans (hq9.mono HQ1.out.size))
                clear HZ HBn hal hq9 hit2 hqb HA0 HIA HB1 HTT1 HQ1
                have HS := Lib.hid (rsame_self refSame hitA hitB)
                have l0 := HA.out.cell 0 _ rfl
                have l1 := HA.out.cell 1 _ rfl
                have l2 := HA.out.cell 2 _ rfl
                have m0 := HBx.out.cell 0 _ rfl
                have m1 := HBx.out.cell 1 _ rfl
                have m2 := HBx.out.cell 2 _ rfl
                clear hitA hitB
                go_wp2_with fail
                refine HS.out.mono ?_
                rintro _ W10 ⟨rfl, hqc⟩
                have NX := Lib.hid (show Has W10 B 9 #[.string xB, .string tB, .string (pB ++ r ++ qB), .string (pB ++ r ++ eB), .string pB] ∧ TabE W10 ∧ Below w.heap.size w W10 from ⟨HB2.out.later hqc, HTT2.out.later hqc, HQ2.out.trans (hqc.mono HQ2.out.size)⟩)
                clear hqc HS l0 l1 l2 m0 m1 m2 n0 n1 n2 g0 g1 g2 hW9
                go_wp2_with fail
                go_roundw
                case rel => exact ⟨j + 1, by have := HJ.out; omega, by simp, NX.out.1, NX.out.2.1, NX.out.2.2⟩
                case measure => have := HJ.out; simp [intOf]; omega
              · have hjI : ¬ (j : Int) < 5 := by omega
                have HQ := Lib.hid hq
                clear hb hq ht
                go_wp2_with fail
                go_ret
                exact ⟨rfl, HQ.out⟩
          · refine wp_region_mix (C := Grows w9) [some true, some true, some true, some true, some true, some true, some true, some true, some true, some true, some true, some true, some true, some true, some true, some true, some true, some true, some true, some true, some true, some true, some true, some true, some true, some true, some true, some true, some true, none, none, some false] hmx (by kernel_rfl) (by kernel_rfl) (grows_refl _) ?_
            simp only [headOf, tailOf]
            repeat (go_big_quiet_step (fail))
            refine wpQuiet_nil ?_
            rintro _ ⟨x, rfl⟩
            have NB := Has.new x.w 9 #[.string xB, .string tB, .string (pB ++ r ++ qB), .string (pB ++ r), .string pB]
            have q5 := (Below.refl x.w.heap.size x.w).alloc (Nat.le_refl _) (.cells #[.string xB, .string tB, .string (pB ++ r ++ qB), .string (pB ++ r), .string pB] 9)
            have hq := x.below.trans (q5.mono x.below.size)
            have HT' := Lib.hid (HT.out.later hq)
            have Q' := Lib.hid (Q.out.trans (hq.mono Q.out.size))
            clear HT Q K1 HI BI
            have HT := HT'
            have Q := Q'
            clear HT' Q'
            replace NB := Lib.hid NB
            clear q5 hq n1 n2 n3 hrI hr0 hkr0 hkrI hkr hqB hpB hkI hkt hk0 heB hm
            go_wp2_with fail
            rw [calmPost_normal]
            go_wp2_with fail
            obtain ⟨W5, hW5⟩ : ∃ W5, x.w.alloc (.cells #[.string xB, .string tB, .string (pB ++ r ++ qB), .string (pB ++ r), .string pB] 9) = W5 := ⟨_, rfl⟩
            rw [hW5] at NB HT Q ⊢
            clear hW5
            generalize x.w.heap.size = B at *
            clear x
            go_loopw [199] (fun i wr => ∃ j : Nat, j ≤ 5 ∧ i = .int .i64 (j : Int) ∧ Has wr B 9 #[.string xB, .string tB, .string (pB ++ r ++ qB), .string (pB ++ r), .string pB] ∧ TabE wr ∧ Below w.heap.size w wr) (fun i _ => 5 - (intOf i).toNat)
            case atStart => exact ⟨0, by omega, rfl, NB.out, HT.out, Q.out⟩
            case round =>
              clear NB HT Q
              obtain ⟨j, hj, rfl, hb, ht, hq⟩ := hrel
              by_cases hj5 : j < 5
              · have hjI : (j : Int) < 5 := by omega
                have hj0 : (0 : Int) ≤ (j : Int) := by omega
                obtain ⟨y, hcell, hys⟩ : ∃ y : ByteArray, wr.cell? ⟨B, j, none⟩ = some (.string y) ∧ y.size ≤ 100000 := by
                  obtain rfl | rfl | rfl | rfl | rfl : j = 0 ∨ j = 1 ∨ j = 2 ∨ j = 3 ∨ j = 4 := by omega
                  · exact ⟨_, hb.cell 0 _ rfl, HY4.out.2.2⟩
                  · exact ⟨_, hb.cell 1 _ rfl, HY4.out.2.1⟩
                  · exact ⟨_, hb.cell 2 _ rfl, HY1.out⟩
                  · exact ⟨_, hb.cell 3 _ rfl, HY3.out⟩
                  · exact ⟨_, hb.cell 4 _ rfl, HY4.out.1⟩
                have HB := Lib.hid hb
                have HQ := Lib.hid hq
                have HTT := Lib.hid ht
                have HD := Lib.hid (decode_any y (by omega) wr ht)
                have HD2 := Lib.hid (fun X => refDecode_any y (by omega) X)
                have HJ := Lib.hid hj5
                clear hb hq ht hj hj5 hys HY1 HY2 HY3 HY4
                generalize hdr : decR y = dr at HD HD2
                clear hdr
                go_wp2_with fail
                refine HD.out.mono ?_
                intro e W6 hdp
                clear HD hcell
                obtain ⟨da, dc, rfl, hit, hqa⟩ := dec_told hdp
                obtain ⟨dt, hdt⟩ : ∃ x, decT dr = x := ⟨_, rfl⟩
                obtain ⟨dx, hdx⟩ : ∃ x, decX dr = x := ⟨_, rfl⟩
                obtain ⟨dn, hdn⟩ : ∃ x, decN dr = x := ⟨_, rfl⟩
                rw [hdt] at hit
                rw [hdt, hdx, hdn]
                have HDD := Lib.hid (And.intro hdt (And.intro hdx hdn))
                clear hdp hdt hdx hdn
                have HZ := Has.new W6 29 #[.bool false, .string ⟨#[]⟩, .slice none 0 0]
                have n0 := HZ.cell 0 _ rfl
                have n1 := HZ.cell 1 _ rfl
                have n2 := HZ.cell 2 _ rfl
                have g0 := HZ.frozen 0
                have g1 := HZ.frozen 1
                have g2 := HZ.frozen 2
                have HAn := Has.new W6 29 #[.bool dt.list, .string dt.bytes, .slice da dt.kids.length dc]
                have hal := (Below.refl W6.heap.size W6).alloc (Nat.le_refl _) (.cells #[.bool dt.list, .string dt.bytes, .slice da dt.kids.length dc] 29)
                have hq7 := hqa.trans (hal.mono hqa.size)
                have hitA0 := hit.later' hal
                obtain ⟨W7, hW7⟩ : ∃ W7, W6.alloc (.cells #[.bool dt.list, .string dt.bytes, .slice da dt.kids.length dc] 29) = W7 := ⟨_, rfl⟩
                rw [hW7] at HAn hq7 hitA0
                have HA0 := Lib.hid HAn
                have HIA := Lib.hid hitA0
                have HB1 := Lib.hid (HB.out.later hq7)
                have HTT1 := Lib.hid (HTT.out.later hq7)
                have HQ1 := Lib.hid (HQ.out.trans (hq7.mono HQ.out.size))
                clear HZ HAn hal hq7 hitA0 hit hqa HB HTT HQ
                go_wp2_with fail
                refine (HD2.out _).mono ?_
                intro e W8 hdp
                obtain ⟨ea, ec, rfl, hit2, hqb⟩ := dec_told hdp
                rw [HDD.out.1] at hit2
                rw [HDD.out.1, HDD.out.2.1, HDD.out.2.2]
                clear hdp HD2 n0 n1 n2 g0 g1 g2 hW7
                have HZ := Has.new W8 29 #[.bool false, .string ⟨#[]⟩, .slice none 0 0]
                have n0 := HZ.cell 0 _ rfl
                have n1 := HZ.cell 1 _ rfl
                have n2 := HZ.cell 2 _ rfl
                have g0 := HZ.frozen 0
                have g1 := HZ.frozen 1
                have g2 := HZ.frozen 2
                have HBn := Has.new W8 29 #[.bool dt.list, .string dt.bytes, .slice ea dt.kids.length ec]
                have hal := (Below.refl W8.heap.size W8).alloc (Nat.le_refl _) (.cells #[.bool dt.list, .string dt.bytes, .slice ea dt.kids.length ec] 29)
                have hq9 := hqb.trans (hal.mono hqb.size)
                have hitB := hit2.later' hal
                obtain ⟨W9, hW9⟩ : ∃ W9, W8.alloc (.cells #[.bool dt.list, .string dt.bytes, .slice ea dt.kids.length ec] 29) = W9 := ⟨_, rfl⟩
                rw [hW9] at HBn hq9 hitB
                have HBx := Lib.hid HBn
                have HA := Lib.hid (HA0.out.later hq9)
                have hitA := HIA.out.later' hq9
                have HB2 := Lib.hid (HB1.out.later hq9)
                have HTT2 := Lib.hid (HTT1.out.later hq9)
                have HQ2 := Lib.hid (HQ1.out.trans (hq9.mono HQ1.out.size))
                clear HZ HBn hal hq9 hit2 hqb HA0 HIA HB1 HTT1 HQ1
                have HS := Lib.hid (rsame_self refSame hitA hitB)
                have l0 := HA.out.cell 0 _ rfl
                have l1 := HA.out.cell 1 _ rfl
                have l2 := HA.out.cell 2 _ rfl
                have m0 := HBx.out.cell 0 _ rfl
                have m1 := HBx.out.cell 1 _ rfl
                have m2 := HBx.out.cell 2 _ rfl
                clear hitA hitB
                go_wp2_with fail
                refine HS.out.mono ?_
                rintro _ W10 ⟨rfl, hqc⟩
                have NX := Lib.hid (show Has W10 B 9 #[.string xB, .string tB, .string (pB ++ r ++ qB), .string (pB ++ r), .string pB] ∧ TabE W10 ∧ Below w.heap.size w W10 from ⟨HB2.out.later hqc, HTT2.out.later hqc, HQ2.out.trans (hqc.mono HQ2.out.size)⟩)
                clear hqc HS l0 l1 l2 m0 m1 m2 n0 n1 n2 g0 g1 g2 hW9
                go_wp2_with fail
                go_roundw
                case rel => exact ⟨j + 1, by have := HJ.out; omega, by simp, NX.out.1, NX.out.2.1, NX.out.2.2⟩
                case measure => have := HJ.out; simp [intOf]; omega
              · have hjI : ¬ (j : Int) < 5 := by omega
                have HQ := Lib.hid hq
                clear hb hq ht
                go_wp2_with fail
                go_ret
                exact ⟨rfl, HQ.out⟩
end Go.Proofs.YtbbpmcebakckaaaGreatDoor
