import Derived.Test.YtkdbokbnongknaaGreatDoorU24
/- RlpParts: the law answers true. Conditions: the raw numbers lie in memory; a table of the library. -/
namespace Go.Proofs.YtkdbokbnongknaaGreatDoor
open Go Go.RowKit
attribute [local go_sem] Oper.semAt_some Grows wide_fn

theorem parts_enc (a b : It) : encI (.mk true ⟨#[]⟩ [a, b]) = headL 192 ((encI a).length + (encI b).length) ++ (encI a ++ encI b) := by
  rw [encI_list, encL, encL, encL, List.append_nil, List.length_append]
theorem headL_9 {n : Nat} (h : n ≤ 100000) : 1 ≤ (headL 192 n).length ∧ (headL 192 n).length ≤ 4 := by
  unfold headL
  split
  · simp
  · have : (digs n).length ≤ 3 := digs_length (by have : (256 : Nat) ^ 3 = 16777216 := by decide
                                                  omega)
    simp only [List.length_cons]; omega
theorem parts_ok (a b : It) (ha : okI a = true ∧ RightI 5 a ∧ countI a ≤ 512 ∧ (encI a).length ≤ 40448) (hb : okI b = true ∧ RightI 4 b ∧ countI b ≤ 512 ∧ (encI b).length ≤ 40448) :
    okI (.mk true ⟨#[]⟩ [a, b]) = true ∧ countI (.mk true ⟨#[]⟩ [a, b]) ≤ 5000 ∧ (encI (.mk true ⟨#[]⟩ [a, b])).length ≤ 1048576 := by
  have hc : countI (.mk true ⟨#[]⟩ [a, b]) ≤ 5000 := by
    rw [countI, countL, countL, countL]; omega
  have hl : (encI (.mk true ⟨#[]⟩ [a, b])).length ≤ 1048576 := by
    rw [parts_enc, List.length_append, List.length_append]
    have := headL_9 (n := (encI a).length + (encI b).length) (by omega)
    omega
  refine ⟨?_, hc, hl⟩
  unfold okI
  rw [(rightB_iff 16 _).2 ?_, decide_eq_true hc]
  · rfl
  · refine ⟨fun _ => rfl, (fun h => by cases h), fun k hk => ?_⟩
    simp [It.kids] at hk
    rcases hk with rfl | rfl
    · exact right_more _ _ _ (by decide) ha.2.1
    · exact right_more _ _ _ (by decide) hb.2.1
theorem kids_two (W : World) (g : Nat) (a b : It) (ga gb : Option Addr) (ca cb : Nat) (h : Has W g 29 #[.bool a.list, .string a.bytes, .slice ga a.kids.length ca, .bool b.list, .string b.bytes, .slice gb b.kids.length cb])
    (ha : ItemAt W a (.agg #[.bool a.list, .string a.bytes, .slice ga a.kids.length ca])) (hb : ItemAt W b (.agg #[.bool b.list, .string b.bytes, .slice gb b.kids.length cb])) : KidsIn W [a, b] (some ⟨g, 0, none⟩) := by
  refine .inr ⟨g, 0, rfl, ?_⟩
  unfold KidsAt
  refine ⟨⟨_, _, _, h.cell 0 _ rfl, h.cell 1 _ rfl, h.cell 2 _ rfl, ha⟩, ?_⟩
  unfold KidsAt
  refine ⟨⟨_, _, _, h.cell 3 _ rfl, h.cell 4 _ rfl, h.cell 5 _ rfl, hb⟩, ?_⟩
  unfold KidsAt
  trivial
theorem byte_of {l : List UInt8} {b : ByteArray} (h : (⟨l.toArray⟩ : ByteArray) = b) (j : Nat) (hp : j < b.size) {c : UInt8} (hc : l[j]? = some c) : b[j]'hp = c := by
  subst h
  have := Lib.getElem_mk l j hp
  rw [hc] at this
  exact (Option.some.inj this).symm
/-- A head's bytes, and what they tell. -/
theorem head_short {n : Nat} (h : n ≤ 55) : headL 192 n = [UInt8.ofNat (192 + n)] := if_pos h
theorem head_long {n : Nat} (h : ¬ n ≤ 55) : headL 192 n = UInt8.ofNat (247 + (digs n).length) :: digs n := if_neg h

set_option maxRecDepth 100000 in
set_option maxHeartbeats 8000000 in
theorem parts_ret (w : World) (hT : TabE w) (v : Value) (zs : List (Int × Int)) (hr : RawAt w v zs) (v' : Value) (zs' : List (Int × Int)) (hr' : RawAt w v' zs') :
    Calls Tryz.prog 5 #[v, v'] w fun e w' => e = .returned (.bool true) ∧ Below w.heap.size w w' := by
  have hmx : Tryz.prog.follows .mixedOrders = true := by kernel_rfl
  have HR := Lib.hid hr
  have HR' := Lib.hid hr'
  have HT := Lib.hid hT
  clear hr hr' hT
  go_enter Tryz.func5, Tryz.ntmps5
  go_wp2_with fail
  refine (awake_any _ HT.out).mono ?_
  rintro _ W1 ⟨rfl, q1⟩
  replace HR := Lib.hid (HR.out.later q1)
  replace HR' := Lib.hid (HR'.out.later q1)
  replace HT := Lib.hid (HT.out.later q1)
  have Q := Lib.hid q1
  clear q1
  go_wp2_with fail
  refine (raw_good 3 (by decide) v zs W1 HR.out).mono ?_
  rintro _ W2 ⟨a, u, rfl, hi, hok, q2⟩
  replace HR' := Lib.hid (HR'.out.later q2)
  replace Q := Lib.hid (Q.out.trans (q2.mono Q.out.size))
  obtain ⟨ga, ca, rfl, _⟩ := hi.open
  have HA := Lib.hid hi.at
  have OA := Lib.hid hok
  clear HR q2 hi hok HT
  have N1 := Has.new W2 29 #[.bool false, .string ⟨#[]⟩, .slice none 0 0]
  have L1 := Has.new W2 29 #[.bool a.list, .string a.bytes, .slice ga a.kids.length ca]
  have r1 := Lib.hid ((Below.refl W2.heap.size W2).alloc (Nat.le_refl _) (.cells #[.bool a.list, .string a.bytes, .slice ga a.kids.length ca] 29))
  have x10 := N1.cell 0 _ rfl
  have f10 := N1.frozen 0
  have y10 := L1.cell 0 _ rfl
  have g10 := L1.frozen 0
  have x11 := N1.cell 1 _ rfl
  have f11 := N1.frozen 1
  have y11 := L1.cell 1 _ rfl
  have g11 := L1.frozen 1
  have x12 := N1.cell 2 _ rfl
  have f12 := N1.frozen 2
  have y12 := L1.cell 2 _ rfl
  have g12 := L1.frozen 2
  replace N1 := Lib.hid N1
  replace L1 := Lib.hid L1
  go_wp2_with fail
  clear x10 f10 y10 g10 x11 f11 y11 g11 x12 f12 y12 g12 N1
  replace HR' := Lib.hid (HR'.out.later r1.out)
  replace HA := Lib.hid (HA.out.later r1.out)
  replace Q := Lib.hid (Q.out.trans (r1.out.mono Q.out.size))
  obtain ⟨W3, hW3⟩ : ∃ W3, W2.alloc (.cells #[.bool a.list, .string a.bytes, .slice ga a.kids.length ca] 29) = W3 := ⟨_, rfl⟩
  rw [hW3] at HR' HA Q L1 ⊢
  clear hW3 r1
  refine (raw_good 2 (by decide) v' zs' W3 HR'.out).mono ?_
  rintro _ W4 ⟨b, u, rfl, hi, hok, q2⟩
  replace Q := Lib.hid (Q.out.trans (q2.mono Q.out.size))
  replace HA := Lib.hid (HA.out.later q2)
  replace L1 := Lib.hid (L1.out.later q2)
  obtain ⟨gb, cb, rfl, _⟩ := hi.open
  have HB := Lib.hid hi.at
  have OB := Lib.hid hok
  clear HR' q2 hi hok
  have N2 := Has.new W4 29 #[.bool false, .string ⟨#[]⟩, .slice none 0 0]
  have L2 := Has.new W4 29 #[.bool b.list, .string b.bytes, .slice gb b.kids.length cb]
  have r2 := Lib.hid ((Below.refl W4.heap.size W4).alloc (Nat.le_refl _) (.cells #[.bool b.list, .string b.bytes, .slice gb b.kids.length cb] 29))
  have x20 := N2.cell 0 _ rfl
  have f20 := N2.frozen 0
  have y20 := L2.cell 0 _ rfl
  have g20 := L2.frozen 0
  have x21 := N2.cell 1 _ rfl
  have f21 := N2.frozen 1
  have y21 := L2.cell 1 _ rfl
  have g21 := L2.frozen 1
  have x22 := N2.cell 2 _ rfl
  have f22 := N2.frozen 2
  have y22 := L2.cell 2 _ rfl
  have g22 := L2.frozen 2
  replace N2 := Lib.hid N2
  replace L2 := Lib.hid L2
  have La := L1.out.alloc (.cells #[.bool b.list, .string b.bytes, .slice gb b.kids.length cb] 29)
  have k0 := La.cell 0 _ rfl
  have k1 := La.cell 1 _ rfl
  have k2 := La.cell 2 _ rfl
  clear La
  go_wp2_with fail
  clear x20 f20 y20 g20 x21 f21 y21 g21 x22 f22 y22 g22 N2
  clear k0 k1 k2
  replace HA := Lib.hid (HA.out.later r2.out)
  replace HB := Lib.hid (HB.out.later r2.out)
  replace L1 := Lib.hid (L1.out.later r2.out)
  replace Q := Lib.hid (Q.out.trans (r2.out.mono Q.out.size))
  obtain ⟨W5, hW5⟩ : ∃ W5, W4.alloc (.cells #[.bool b.list, .string b.bytes, .slice gb b.kids.length cb] 29) = W5 := ⟨_, rfl⟩
  rw [hW5] at HA HB Q L1 L2 ⊢
  clear hW5 r2
  obtain ⟨sB, hsB⟩ : ∃ sB : ByteArray, (⟨(encI a).toArray⟩ : ByteArray) = sB := ⟨_, rfl⟩
  obtain ⟨tB, htB⟩ : ∃ tB : ByteArray, (⟨(encI b).toArray⟩ : ByteArray) = tB := ⟨_, rfl⟩
  have HE := Lib.hid (show Calls Tryz.prog 13 #[.agg #[.bool a.list, .string a.bytes, .slice ga a.kids.length ca]] W5 fun e w' => e = .returned (.tuple #[.string sB, .int .i64 0]) ∧ Below W5.heap.size W5 w' by
    have := enc_good a OA.out.1 (by have := OA.out; omega) (by have := OA.out; omega) _ W5 HA.out
    rw [hsB] at this
    exact this)
  refine HE.out.mono ?_
  rintro _ W6 ⟨rfl, q6⟩
  replace HA := Lib.hid (HA.out.later q6)
  replace HB := Lib.hid (HB.out.later q6)
  replace L1 := Lib.hid (L1.out.later q6)
  replace L2 := Lib.hid (L2.out.later q6)
  replace Q := Lib.hid (Q.out.trans (q6.mono Q.out.size))
  clear q6 HE
  have HE := Lib.hid (show Calls Tryz.prog 13 #[.agg #[.bool b.list, .string b.bytes, .slice gb b.kids.length cb]] W6 fun e w' => e = .returned (.tuple #[.string tB, .int .i64 0]) ∧ Below W6.heap.size W6 w' by
    have := enc_good b OB.out.1 (by have := OB.out; omega) (by have := OB.out; omega) _ W6 HB.out
    rw [htB] at this
    exact this)
  have k0 := L2.out.cell 0 _ rfl
  have k1 := L2.out.cell 1 _ rfl
  have k2 := L2.out.cell 2 _ rfl
  go_wp2_with fail
  clear k0 k1 k2
  refine HE.out.mono ?_
  rintro _ W7 ⟨rfl, q7⟩
  replace HA := Lib.hid (HA.out.later q7)
  replace HB := Lib.hid (HB.out.later q7)
  replace L1 := Lib.hid (L1.out.later q7)
  replace L2 := Lib.hid (L2.out.later q7)
  replace Q := Lib.hid (Q.out.trans (q7.mono Q.out.size))
  clear q7 HE
  have k0 := L1.out.cell 0 _ rfl
  have k1 := L1.out.cell 1 _ rfl
  have k2 := L1.out.cell 2 _ rfl
  have k3 := L2.out.cell 0 _ rfl
  have k4 := L2.out.cell 1 _ rfl
  have k5 := L2.out.cell 2 _ rfl
  have N6 := Has.new W7 29 #[.bool a.list, .string a.bytes, .slice ga a.kids.length ca, .bool b.list, .string b.bytes, .slice gb b.kids.length cb]
  have r6 := (Below.refl W7.heap.size W7).alloc (Nat.le_refl _) (.cells #[.bool a.list, .string a.bytes, .slice ga a.kids.length ca, .bool b.list, .string b.bytes, .slice gb b.kids.length cb] 29)
  have HL := Lib.hid (list_any [a, b] (some ⟨W7.heap.size, 0, none⟩) 2 _ (kids_two _ _ a b ga gb ca cb N6 (HA.out.later r6) (HB.out.later r6)) (by simp))
  replace r6 := Lib.hid r6
  clear N6 L1 L2
  go_wp2_with fail
  clear k0 k1 k2 k3 k4 k5
  refine HL.out.mono ?_
  rintro _ W8 ⟨ga8, ca8, rfl, hi, q8⟩
  have q8' := r6.out.trans (q8.mono r6.out.size)
  replace Q := Lib.hid (Q.out.trans (q8'.mono Q.out.size))
  have HAL := Lib.hid hi.at
  clear q8 q8' r6 HL hi HA HB
  obtain ⟨n, hn⟩ : ∃ n, (encI a).length + (encI b).length = n := ⟨_, rfl⟩
  obtain ⟨hB, hhB⟩ : ∃ hB : ByteArray, (⟨(headL 192 n).toArray⟩ : ByteArray) = hB := ⟨_, rfl⟩
  obtain ⟨uB, huB⟩ : ∃ uB : ByteArray, hB ++ (sB ++ tB) = uB := ⟨_, rfl⟩
  have hu : (⟨(encI (.mk true ⟨#[]⟩ [a, b])).toArray⟩ : ByteArray) = uB := by
    rw [← huB, ← hhB, ← hsB, ← htB, ← hn, parts_enc]
    exact ByteArray.ext (by simp)
  have hos := parts_ok a b OA.out (by have := OB.out; exact ⟨this.1, this.2.1, this.2.2.1, this.2.2.2⟩)
  have HE := Lib.hid (show Calls Tryz.prog 13 #[.agg #[.bool true, .string ⟨#[]⟩, .slice ga8 [a, b].length ca8]] W8 fun e w' => e = .returned (.tuple #[.string uB, .int .i64 0]) ∧ Below W8.heap.size W8 w' by
    have := enc_good _ hos.1 hos.2.1 hos.2.2 _ W8 HAL.out
    rw [hu] at this
    exact this)
  clear hu hos HAL
  go_wp2_with fail
  refine HE.out.mono ?_
  rintro _ W9 ⟨rfl, q9⟩
  replace Q := Lib.hid (Q.out.trans (q9.mono Q.out.size))
  clear q9 HE
  have h1 : sB.size = (encI a).length := by rw [← hsB, sizeM]
  have h2 : tB.size = (encI b).length := by rw [← htB, sizeM]
  have h3 : hB.size = (headL 192 n).length := by rw [← hhB, sizeM]
  have hA4 := OA.out.2.2.2
  have hB4 := OB.out.2.2.2
  have h9 := headL_9 (n := n) (by omega)
  have h4 : uB.size = hB.size + (sB.size + tB.size) := by rw [← huB, ByteArray.size_append, ByteArray.size_append]
  have hx1 : uB.extract 0 hB.size = hB := by rw [← huB]; exact ByteArray.ext (by simp [ByteArray.extract_append_eq_left])
  have hx2 : uB.extract hB.size uB.size = sB ++ tB := by
    rw [← huB]
    exact ByteArray.extract_append_eq_right rfl (by rw [ByteArray.size_append])
  have hNI : ((sB.size : Nat) : Int) + ((tB.size : Nat) : Int) = (n : Int) := by omega
  have hnb : n ≤ 80896 := by omega
  have hnI : (n : Int) ≤ 80896 := by omega
  have hn0 : (0 : Int) ≤ (n : Int) := by omega
  have hsub : ((uB.size : Nat) : Int) - (n : Int) = ((hB.size : Nat) : Int) := by omega
  have hlt : decide (((uB.size : Nat) : Int) < (n : Int) + 1) = false := decide_eq_false (by omega)
  have hle : ((hB.size : Nat) : Int) ≤ ((uB.size : Nat) : Int) := by omega
  have hle2 : hB.size ≤ uB.size := by omega
  have hh4 : ((hB.size : Nat) : Int) ≤ 4 := by omega
  have hh0 : (0 : Int) ≤ ((hB.size : Nat) : Int) := by omega
  have hcat : ¬ 9223372036854775807 < sB.size + tB.size := by omega
  have hsz1 : 1 ≤ hB.size := by omega
  have H3 := Lib.hid h3
  have HHB := Lib.hid hhB
  have HNB := Lib.hid hnb
  clear h1 h2 h3 h4 hA4 hB4 h9 huB hsB htB hhB hn OA OB hnb
  by_cases h55 : n ≤ 55
  · have h55I : (n : Int) ≤ 55 := by omega
    have hp : 0 < hB.size := hsz1
    have hh1 : ((hB.size : Nat) : Int) = 1 := by rw [H3.out, head_short h55]; rfl
    have hb0 : ((hB[0]'hp).toNat : Int) = 192 + (n : Int) := by
      have e2 : hB[0]'hp = UInt8.ofNat (192 + n) := byte_of HHB.out 0 hp (by rw [head_short h55]; rfl)
      rw [e2, UInt8.toNat_ofNat']
      omega
    have hh1n : hB.size = 1 := by omega
    have hx1' : uB.extract 0 1 = hB := by rw [← hx1, hh1n]
    have hx2' : uB.extract 1 uB.size = sB ++ tB := by rw [← hx2, hh1n]
    clear hx1 hx2 hle2 hsz1 hh4 hh0
    replace H3 := Lib.hid H3
    have hle1 : (1 : Int) ≤ ((uB.size : Nat) : Int) := by omega
    clear hle hh1
    go_wp2_with fail
    go_ret
    exact ⟨rfl, Q.out⟩
  · have h55I : ¬ (n : Int) ≤ 55 := by omega
    have HL55 := Lib.hid (head_long h55)
    have hlen : hB.size = 1 + (digs n).length := by rw [H3.out, HL55.out, List.length_cons]; omega
    have HLEN := Lib.hid hlen
    have hd0 : digs n ≠ [] := fun h => h55 (by rw [digs_nil.1 h]; decide)
    have hp1 : 1 < hB.size := by
      have := List.length_pos_iff.2 hd0
      omega
    have hp : 0 < hB.size := hsz1
    have hb0 : ((hB[0]'hp).toNat : Int) = 247 + ((hB.size : Nat) : Int) - 1 := by
      have e2 : hB[0]'hp = UInt8.ofNat (247 + (digs n).length) := byte_of HHB.out 0 hp (by rw [HL55.out]; rfl)
      rw [e2, UInt8.toNat_ofNat']
      omega
    have hb1 : ¬ ((hB[1]'hp1).toNat : Int) = 0 := by
      rcases hd : digs n with _ | ⟨c, r⟩
      · exact absurd hd hd0
      · have e2 : hB[1]'hp1 = c := byte_of HHB.out 1 hp1 (by rw [HL55.out, hd]; rfl)
        rw [e2]
        have := digs_bare n c r hd
        intro h
        exact this (UInt8.toNat_inj.1 (by show c.toNat = 0; omega))
    have Hb0 := Lib.hid hb0
    have Hb1 := Lib.hid hb1
    clear hlen hd0 hb0 hb1 h55
    go_wp2_with fail
    go_loop [16, 17] (fun kv iv => ∃ j : Nat, 1 ≤ j ∧ j ≤ hB.size ∧ iv = .int .i64 (j : Int) ∧ kv = .int .i64 ((val256 0 ((digs n).take (j - 1)) : Nat) : Int)) (fun _ iv => 5 - (intOf iv).toNat)
    case atStart => exact ⟨1, by omega, hsz1, rfl, by simp [val256]⟩
    case round =>
      obtain ⟨j, hj1, hj, rfl, rfl⟩ := hrel
      clear hsub hlt hle hle2 hcat hNI hx1 hx2
      by_cases hjh : j < hB.size
      · have hjI : (j : Int) < ((hB.size : Nat) : Int) := by omega
        have hj0 : (0 : Int) ≤ (j : Int) := by omega
        have hj5 : (j : Int) ≤ 4 := by omega
        obtain ⟨c, hc⟩ : ∃ c, (digs n)[j - 1]? = some c := ⟨_, List.getElem?_eq_getElem (by have := HLEN.out; omega)⟩
        have hbj : hB[j]'hjh = c := byte_of HHB.out j hjh (by rw [HL55.out, show j = (j - 1) + 1 by omega, List.getElem?_cons_succ]; exact hc)
        have hnx : (val256 0 ((digs n).take j)) = 256 * val256 0 ((digs n).take (j - 1)) + c.toNat := by
          have e : (digs n).take j = (digs n).take (j - 1) ++ [c] := by
            rw [show j = (j - 1) + 1 by omega, List.take_succ_eq_append_getElem (List.getElem?_eq_some_iff.1 hc).1]
            rw [(List.getElem?_eq_some_iff.1 hc).2]
            rfl
          rw [e, val256_snoc]
          omega
        have hvb : val256 0 ((digs n).take (j - 1)) ≤ 16777216 := by
          have h1 := val256_lt ((digs n).take (j - 1))
          have h2 : 256 ^ ((digs n).take (j - 1)).length ≤ 256 ^ 3 := Nat.pow_le_pow_right (by decide) (by rw [List.length_take]; omega)
          have : (256 : Nat) ^ 3 = 16777216 := by decide
          omega
        have HNX := Lib.hid hnx
        generalize val256 0 ((digs n).take (j - 1)) = x at *
        have hx0 : (0 : Int) ≤ (x : Int) := by omega
        have hxb : (x : Int) ≤ 16777216 := by omega
        have hc0 : (0 : Int) ≤ (c.toNat : Int) := by omega
        have hcb : (c.toNat : Int) ≤ 255 := by have := c.toNat_lt; omega
        clear hnx hvb hc
        go_wp2_with fail
        refine ⟨⟨j + 1, by omega, by omega, by simp, ?_⟩, by simp [intOf]; omega⟩
        rw [show j + 1 - 1 = j by omega, HNX.out]
        simp
      · have hjI : ¬ (j : Int) < ((hB.size : Nat) : Int) := by omega
        have hje : val256 0 ((digs n).take (j - 1)) = n := by
          rw [List.take_of_length_le (by have := HLEN.out; omega), val256_digs]
        rw [hje]
        have hb0 := Hb0.out
        have hb1 := Hb1.out
        have hp1I : (1 : Int) < ((hB.size : Nat) : Int) := by omega
        have hpI : (0 : Int) < ((hB.size : Nat) : Int) := by omega
        have hb2 : (((hB[1]'hp1).toNat : Int) != 0) = true := by simpa using hb1
        clear hje hb1
        go_wp2_with fail
        go_ret
        exact ⟨rfl, Q.out⟩
end Go.Proofs.YtkdbokbnongknaaGreatDoor
