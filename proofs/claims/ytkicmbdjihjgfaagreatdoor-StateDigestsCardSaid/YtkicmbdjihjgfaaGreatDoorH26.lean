/- Part. -/
import Derived.Test.YtkicmbdjihjgfaaGreatDoorH25
import Derived.Test.YtkicmbdjihjgfaaGreatDoorH11
import Derived.Test.YtkicmbdjihjgfaaGreatDoorH09
import Derived.Test.YtkicmbdjihjgfaaGreatDoorH12
set_option maxRecDepth 100000
set_option maxHeartbeats 16000000
namespace Go.Proofs.YtkicmbdjihjgfaaGreatDoor
open Go Go.RowKit
attribute [local go_sem] Oper.semAt_some Grows wide_fn
theorem refOwn_any8 (W : World) (x : Ac) (sv : Value) (hs : SlotsAt W sv x.slots) (hl : x.slots.length ≤ 100000) :
  Calls Tryz.prog 38 #[.agg (acC x sv)] W fun e w' => ∃ sv', e = .returned (.agg (acC x sv')) ∧ RowT w' W.heap.size sv' x.slots ∧ Below W.heap.size W w' := by
 have hB := Has.new W 31 (acC x sv)
 have hq := newA W (.cells (acC x sv) 31)
 have HS := hid hs
 obtain ⟨V, hV⟩ : ∃ V, W.alloc (.cells (acC x sv) 31) = V := ⟨_, rfl⟩
 rw [hV] at hB hq
 obtain ⟨V2, hV2, hB2, hq2⟩ := newK0 V
 have HVW := hid hB.lt
 have hb := hB.later hq2
 obtain ⟨_, _, _, _, _, _, c26⟩ := hb.acc
 have Q2 := hid (hq.trans (hq2.mono hq.size))
 obtain ⟨a0, cap0, rfl, _, _⟩ := hs.shape
 obtain ⟨sv', w3, happ, hs', hb3⟩ := copy_slots V2 (.slice a0 x.slots.length cap0) x.slots (hs.later Q2.out) hl
 have B1 := hid hb
 have B2 := hid hB2
 clear hb hB hq hq2 hB2 hl hs
 obtain ⟨a', cap', rfl⟩ := hs'.shape
 have S' := hid hs'
 have HW' := hid HS.out.wideAll
 have f26 := (B1.out.later hb3).frozen 26
 have k26 := (B1.out.later hb3).cell 26 _ (acC_more x (.slice a0 x.slots.length cap0) 6)
 have Q3 := hid (Q2.out.trans (hb3.mono Q2.out.size))
 have B3 := hid (B1.out.later hb3)
 have B4 := hid (B2.out.later hb3)
 obtain ⟨n, hn⟩ : ∃ n, x.slots.length = n := ⟨_, rfl⟩
 rw [hn] at happ c26 B1 hV ⊢
 have HN := hid hn
 rw [hn] at S' k26
 clear hn
 have h4 : Has (w3.setCell ⟨W.heap.size, 26, none⟩ (.slice a' n cap')) W.heap.size 31 (acC x (.slice a' n cap')) := by
  have := B3.out.set 26 (.slice a' n cap')
  rwa [acC_set] at this
 have h42 : Has (w3.setCell ⟨W.heap.size, 26, none⟩ (.slice a' n cap')) V.heap.size 31 #[.int .u8 0, .int .u8 0, .int .u8 0, .int .u8 0, .int .u8 0, .int .u8 0, .int .u8 0, .int .u8 0, .int .u8 0, .int .u8 0, .int .u8 0, .int .u8 0, .int .u8 0, .int .u8 0, .int .u8 0, .int .u8 0, .int .u8 0, .int .u8 0, .int .u8 0, .int .u8 0, .int .u64 0, .int .u64 0, .int .u64 0, .int .u64 0, .int .i64 0, .string { data := #[] }, .slice none 0 0] := B4.out.other (by show V.heap.size ≠ W.heap.size; have := HVW.out; omega) _
 have Q4 := hid (Below.setCell Q3.out (p := ⟨W.heap.size, 26, none⟩) (Nat.le_refl _) (.slice a' n cap'))
 have S4 := hid (S'.out.setAc B3.out 26 (.slice a' n cap'))
 have hl4 := h4.accLoad
 have h5 : Has ((w3.setCell ⟨W.heap.size, 26, none⟩ (.slice a' n cap')).setRow V.heap.size (acC x (.slice a' n cap'))) V.heap.size 31 (acC x (.slice a' n cap')) := setRow_heap _ _ _ _ _ _ h42
 have Q5 := hid (below_rowAc Q4.out (g := V.heap.size) (by have := HVW.out; omega) (acC x (.slice a' n cap')))
 have S5 := hid (S4.out.rowAc h42 (acC x (.slice a' n cap')))
 have hl5 := h5.accLoad
 have hi5 : (Tryz.prog.info? 31).map (·.size) = some (acC x (.slice a' n cap')).size := by rw [acC_size]; exact infoAc
 have ho5 : (#[.int .u8 0, .int .u8 0, .int .u8 0, .int .u8 0, .int .u8 0, .int .u8 0, .int .u8 0, .int .u8 0, .int .u8 0, .int .u8 0, .int .u8 0, .int .u8 0, .int .u8 0, .int .u8 0, .int .u8 0, .int .u8 0, .int .u8 0, .int .u8 0, .int .u8 0, .int .u8 0, .int .u64 0, .int .u64 0, .int .u64 0, .int .u64 0, .int .i64 0, .string { data := #[] }, .slice none 0 0] : Array Value).size = (acC x (.slice a' n cap')).size := by rw [acC_size]; rfl
 have ha5 := acC_one x (.slice a' n cap') rfl
 clear hs' h4 hb3
 go_enter Tryz.func38, Tryz.ntmps38
 go_wp2_with (first | (at_builtin; refine wpList_append_run rfl (.const (.slice none 0 0)) (.tmp 4) 29 rfl _ _ _ rfl rfl happ ?_) | (refine wpList_load_known rfl _ (.tmp 1) rfl _ rfl _ hl4 ?_) | (refine wpList_store_row rfl _ (.tmp 2) (.tmp 7) rfl _ _ rfl rfl _ _ h42 hi5 ho5 ha5 ?_))
 try simp only [Exit.inBlock, Exit.then]
 refine bodyPost_ret (results_cell_row rfl _ _ V.heap.size 31 _ (0, 0) _ rfl h5 Tryz.underlying31 rfl hi5) rfl ?_
 have S6 := S5.out.lower Q2.out.size
 exact ⟨_, rfl, S6, Q5.out⟩
theorem refFind_any8 (W : World) (sv : Value) (l : List Ac) (hs : StAt W sv l) (t : Nat) (ht : t < 256 ^ 20) (hsl : ∀ x ∈ l, x.slots.length ≤ 100000) :
  Calls Tryz.prog 19 #[sv, .agg (adC t)] W fun e w' => ∃ sv', e = .returned (.agg (acC (findA l t) sv')) ∧ RowT w' W.heap.size sv' (findA l t).slots ∧ (∀ y ∈ (findA l t).slots, W256 y.1 ∧ W256 y.2) ∧ Below W.heap.size W w' := by
 have hmx : Tryz.prog.follows .mixedOrders = true := by kernel_rfl
 have hB := Has.new W 25 (adC t)
 have hq0 := newA W (.cells (adC t) 25)
 obtain ⟨V, hV⟩ : ∃ V, W.alloc (.cells (adC t) 25) = V := ⟨_, rfl⟩
 rw [hV] at hB hq0
 obtain ⟨V2, hV2, hB2, hq2⟩ := newK0 V
 have B1 := hid (hB.later hq2)
 have B2 := hid hB2
 have HVW := hid hB.lt
 have Q0 := hid (hq0.trans (hq2.mono hq0.size))
 have HT := hid ht
 have HSL := hid hsl
 obtain ⟨a, cap, rfl, hnc, hcm⟩ := hs.shape
 have HS := hid ((hs.later hq0).later hq2)
 obtain ⟨n, hn⟩ : ∃ n, l.length = n := ⟨_, rfl⟩
 rw [hn] at HS hnc
 have HN := hid hn
 have hlc := hid (Nat.le_trans hnc hcm)
 rw [hn]
 clear hs hnc hcm hn hB hq0 hB2 hq2 ht hsl
 have HAD := hid (fun (X : World) (hX : Below V2.heap.size V2 X) => (B1.out.later hX).adLoad)
 have HEQ := hid (fun (x : Ac) (hx : AcOk x) (X : World) => eq20 x.at_ t hx.at_ HT.out X)
 generalize hct : adC t = ct at *
 replace hct := hid hct
 go_enter Tryz.func19, Tryz.ntmps19
 go_wp2_with fail
 clear hV hV2
 go_loopw [5] (fun i wr => ∃ k : Nat, k ≤ n ∧ i = .int .i64 (k : Int) ∧ (∀ (j : Nat) (x : Ac), j < k → l[j]? = some x → x.at_ ≠ t) ∧ Below V2.heap.size V2 wr) (fun i _ => n - (intOf i).toNat)
 case atStart => exact ⟨0, by omega, rfl, fun j x h => absurd h (by omega), Below.refl _ _⟩
 case round =>
  obtain ⟨k, hk, rfl, hlt, hq⟩ := hrel
  have HLT := hid hlt
  have HQ := hid hq
  clear hlt hq
  by_cases hkn : k < n
  ·have hknI : (k : Int) < (n : Int) := by omega
   have hk0 : (0 : Int) ≤ (k : Int) := by omega
   have hkb : (k : Int) ≤ 9223372036854775806 := by have := hlc.out; omega
   obtain ⟨x, hx⟩ : ∃ x, l[k]? = some x := ⟨_, List.getElem?_eq_getElem (by have := HN.out; omega)⟩
   obtain ⟨b, sx, rfl, ax⟩ := (HS.out.later HQ.out).at hx
   obtain ⟨a', cap', rfl, _, _⟩ := ax.slots.shape
   have hl1 := ax.load
   have LA := hid (show ∀ z : World, Grows wr z → (loadVar 25 (b.add (k * 27))).run Tryz.prog z = .ok (.agg (adC x.at_)) z from fun z hz => by obtain ⟨q, rfl⟩ := hz; exact (ax.later q.below).loadAd)
   have LT := hid (show ∀ z : World, Grows wr z → (loadVar 25 ⟨W.heap.size, 0, none⟩).run Tryz.prog z = .ok (.agg ct) z from fun z hz => by obtain ⟨q, rfl⟩ := hz; exact HAD.out _ (HQ.out.trans (q.below.mono HQ.out.size)))
   have he6 := HEQ.out x (HS.out.ok hx)
   have HWS := hid ax.slots.wideAll
   have AX := hid ax
   have hsl := hid (HSL.out x (List.mem_of_getElem? hx))
   generalize adC x.at_ = cx at *
   have HX := hid (And.intro hx hkn)
   clear hx hkn hk ax hl1
   by_cases he : x.at_ = t
   ·rw [decide_eq_true he] at he6
    have HE := hid he
    clear he
    go_wp2_with fail
    refine wp_region_quietL (C := Grows wr) hmx (by kernel_rfl) (grows_refl wr) ?_
    repeat (first | (with_reducible refine wpQuiet_load rfl 25 _ rfl _ rfl _ LA.out ?_; simp only [Act.put, sT, sS, sZ]) | (with_reducible refine wpQuiet_load rfl 25 _ rfl _ rfl _ LT.out ?_; simp only [Act.put, sT, sS, sZ]) | (go_big_quiet_step (fail)))
    refine wpQuiet_nil ?_
    rintro _ ⟨z, rfl⟩
    have QQ := hid (HQ.out.trans (z.below.mono HQ.out.size))
    have az := AX.out.later z.below
    have hl1 := az.load
    have KO := hid (refOwn_any8 _ x _ az.slots hsl.out)
    clear az LA LT
    generalize z.w = wz at *
    go_wp2_with (refine wpList_load_known rfl _ (.tmp 21) rfl _ rfl _ hl1 ?_)
    refine KO.out.mono ?_
    rintro _ w6 ⟨sv', rfl, hrow, q6⟩
    obtain ⟨a2, c2, rfl⟩ := hrow.shape
    have Q6 := hid (QQ.out.trans (q6.mono QQ.out.size))
    have B6 := (B2.out.later QQ.out).later q6
    have hi7 : (Tryz.prog.info? 31).map (·.size) = some (acC x (.slice a2 x.slots.length c2)).size := by rw [acC_size]; exact infoAc
    have ho7 : (#[.int .u8 0, .int .u8 0, .int .u8 0, .int .u8 0, .int .u8 0, .int .u8 0, .int .u8 0, .int .u8 0, .int .u8 0, .int .u8 0, .int .u8 0, .int .u8 0, .int .u8 0, .int .u8 0, .int .u8 0, .int .u8 0, .int .u8 0, .int .u8 0, .int .u8 0, .int .u8 0, .int .u64 0, .int .u64 0, .int .u64 0, .int .u64 0, .int .i64 0, .string { data := #[] }, .slice none 0 0] : Array Value).size = (acC x (.slice a2 x.slots.length c2)).size := by rw [acC_size]; rfl
    have ha7 := acC_one x (.slice a2 x.slots.length c2) rfl
    have h7 : Has (w6.setRow V.heap.size (acC x (.slice a2 x.slots.length c2))) V.heap.size 31 (acC x (.slice a2 x.slots.length c2)) := setRow_heap _ _ _ _ _ _ B6
    have S7 := hid (hrow.rowAc B6 (acC x (.slice a2 x.slots.length c2)))
    have Q7 := hid ((Q0.out.trans (Q6.out.mono Q0.out.size)).trans (below_rowAc (Below.refl w6.heap.size w6 |>.mono (Nat.le_trans Q0.out.size Q6.out.size)) (g := V.heap.size) (by have := HVW.out; omega) (acC x (.slice a2 x.slots.length c2))))
    have HFA := hid (findA_hit HX.out.1 HE.out HLT.out)
    clear hl1 he6 hrow q6 KO
    go_wp2_with (refine wpList_store_row rfl _ (.tmp 4) (.tmp 23) rfl _ _ rfl rfl _ _ B6 hi7 ho7 ha7 ?_)
    try simp only [Exit.inBlock, Exit.then]
    refine bodyPost_ret (results_cell_row rfl _ _ V.heap.size 31 _ (0, 0) _ rfl h7 Tryz.underlying31 rfl hi7) rfl ?_
    rw [HFA.out]
    exact ⟨_, rfl, S7.out.lower (Nat.le_trans Q0.out.size QQ.out.size), HWS.out, Q7.out⟩
   ·rw [decide_eq_false he] at he6
    have HE := hid he
    clear he
    go_wp2_with fail
    refine wp_region_quietL (C := Grows wr) hmx (by kernel_rfl) (grows_refl wr) ?_
    repeat (first | (with_reducible refine wpQuiet_load rfl 25 _ rfl _ rfl _ LA.out ?_; simp only [Act.put, sT, sS, sZ]) | (with_reducible refine wpQuiet_load rfl 25 _ rfl _ rfl _ LT.out ?_; simp only [Act.put, sT, sS, sZ]) | (go_big_quiet_step (fail)))
    refine wpQuiet_nil ?_
    rintro _ ⟨z, rfl⟩
    have QQ := hid (HQ.out.trans (z.below.mono HQ.out.size))
    clear LA LT he6
    go_wp2_with fail
    go_roundw
    case rel => exact ⟨k + 1, by have := HX.out.2; omega, by simp, fun j y hj hy => by
     by_cases hjk : j < k
     ·exact HLT.out j y hjk hy
     ·obtain rfl : j = k := by omega
      rw [HX.out.1] at hy
      injection hy with hy
      subst hy
      exact HE.out, QQ.out⟩
    case measure => have := HX.out.2; simp [intOf]; omega
  ·obtain rfl : k = n := by omega
   have hkk : ¬ (k : Int) < (k : Int) := by omega
   have HFA := hid (show findA l t = ⟨t, 0, 0, ⟨#[]⟩, []⟩ from findA_none (fun j y hy => HLT.out j y (by have := (List.getElem?_eq_some_iff.1 hy).1; have := HN.out; omega) hy))
   have ht8 := HAD.out _ HQ.out
   have hlit : ct = #[.int .u8 ((adB t 0 : Nat) : Int), .int .u8 ((adB t 1 : Nat) : Int), .int .u8 ((adB t 2 : Nat) : Int), .int .u8 ((adB t 3 : Nat) : Int), .int .u8 ((adB t 4 : Nat) : Int), .int .u8 ((adB t 5 : Nat) : Int), .int .u8 ((adB t 6 : Nat) : Int), .int .u8 ((adB t 7 : Nat) : Int), .int .u8 ((adB t 8 : Nat) : Int), .int .u8 ((adB t 9 : Nat) : Int), .int .u8 ((adB t 10 : Nat) : Int), .int .u8 ((adB t 11 : Nat) : Int), .int .u8 ((adB t 12 : Nat) : Int), .int .u8 ((adB t 13 : Nat) : Int), .int .u8 ((adB t 14 : Nat) : Int), .int .u8 ((adB t 15 : Nat) : Int), .int .u8 ((adB t 16 : Nat) : Int), .int .u8 ((adB t 17 : Nat) : Int), .int .u8 ((adB t 18 : Nat) : Int), .int .u8 ((adB t 19 : Nat) : Int)] := by rw [← hct.out]; rfl
   obtain ⟨b0, e0⟩ : ∃ b, ((adB t 0 : Nat) : Int) = b := ⟨_, rfl⟩
   rw [e0] at hlit
   replace e0 := hid e0
   obtain ⟨b1, e1⟩ : ∃ b, ((adB t 1 : Nat) : Int) = b := ⟨_, rfl⟩
   rw [e1] at hlit
   replace e1 := hid e1
   obtain ⟨b2, e2⟩ : ∃ b, ((adB t 2 : Nat) : Int) = b := ⟨_, rfl⟩
   rw [e2] at hlit
   replace e2 := hid e2
   obtain ⟨b3, e3⟩ : ∃ b, ((adB t 3 : Nat) : Int) = b := ⟨_, rfl⟩
   rw [e3] at hlit
   replace e3 := hid e3
   obtain ⟨b4, e4⟩ : ∃ b, ((adB t 4 : Nat) : Int) = b := ⟨_, rfl⟩
   rw [e4] at hlit
   replace e4 := hid e4
   obtain ⟨b5, e5⟩ : ∃ b, ((adB t 5 : Nat) : Int) = b := ⟨_, rfl⟩
   rw [e5] at hlit
   replace e5 := hid e5
   obtain ⟨b6, e6⟩ : ∃ b, ((adB t 6 : Nat) : Int) = b := ⟨_, rfl⟩
   rw [e6] at hlit
   replace e6 := hid e6
   obtain ⟨b7, e7⟩ : ∃ b, ((adB t 7 : Nat) : Int) = b := ⟨_, rfl⟩
   rw [e7] at hlit
   replace e7 := hid e7
   obtain ⟨b8, e8⟩ : ∃ b, ((adB t 8 : Nat) : Int) = b := ⟨_, rfl⟩
   rw [e8] at hlit
   replace e8 := hid e8
   obtain ⟨b9, e9⟩ : ∃ b, ((adB t 9 : Nat) : Int) = b := ⟨_, rfl⟩
   rw [e9] at hlit
   replace e9 := hid e9
   obtain ⟨b10, e10⟩ : ∃ b, ((adB t 10 : Nat) : Int) = b := ⟨_, rfl⟩
   rw [e10] at hlit
   replace e10 := hid e10
   obtain ⟨b11, e11⟩ : ∃ b, ((adB t 11 : Nat) : Int) = b := ⟨_, rfl⟩
   rw [e11] at hlit
   replace e11 := hid e11
   obtain ⟨b12, e12⟩ : ∃ b, ((adB t 12 : Nat) : Int) = b := ⟨_, rfl⟩
   rw [e12] at hlit
   replace e12 := hid e12
   obtain ⟨b13, e13⟩ : ∃ b, ((adB t 13 : Nat) : Int) = b := ⟨_, rfl⟩
   rw [e13] at hlit
   replace e13 := hid e13
   obtain ⟨b14, e14⟩ : ∃ b, ((adB t 14 : Nat) : Int) = b := ⟨_, rfl⟩
   rw [e14] at hlit
   replace e14 := hid e14
   obtain ⟨b15, e15⟩ : ∃ b, ((adB t 15 : Nat) : Int) = b := ⟨_, rfl⟩
   rw [e15] at hlit
   replace e15 := hid e15
   obtain ⟨b16, e16⟩ : ∃ b, ((adB t 16 : Nat) : Int) = b := ⟨_, rfl⟩
   rw [e16] at hlit
   replace e16 := hid e16
   obtain ⟨b17, e17⟩ : ∃ b, ((adB t 17 : Nat) : Int) = b := ⟨_, rfl⟩
   rw [e17] at hlit
   replace e17 := hid e17
   obtain ⟨b18, e18⟩ : ∃ b, ((adB t 18 : Nat) : Int) = b := ⟨_, rfl⟩
   rw [e18] at hlit
   replace e18 := hid e18
   obtain ⟨b19, e19⟩ : ∃ b, ((adB t 19 : Nat) : Int) = b := ⟨_, rfl⟩
   rw [e19] at hlit
   replace e19 := hid e19
   rw [hlit] at ht8
   have hcz : (acC ⟨t, 0, 0, ⟨#[]⟩, []⟩ (.slice none 0 0)) = #[.int .u8 b0, .int .u8 b1, .int .u8 b2, .int .u8 b3, .int .u8 b4, .int .u8 b5, .int .u8 b6, .int .u8 b7, .int .u8 b8, .int .u8 b9, .int .u8 b10, .int .u8 b11, .int .u8 b12, .int .u8 b13, .int .u8 b14, .int .u8 b15, .int .u8 b16, .int .u8 b17, .int .u8 b18, .int .u8 b19, .int .u64 0, .int .u64 0, .int .u64 0, .int .u64 0, .int .i64 0, .string { data := #[] }, .slice none 0 0] := by rw [← e0.out, ← e1.out, ← e2.out, ← e3.out, ← e4.out, ← e5.out, ← e6.out, ← e7.out, ← e8.out, ← e9.out, ← e10.out, ← e11.out, ← e12.out, ← e13.out, ← e14.out, ← e15.out, ← e16.out, ← e17.out, ← e18.out, ← e19.out]; unfold acC acL; simp only [lim_zero]; rfl
   have B6 := B2.out.later HQ.out
   have hi7 : (Tryz.prog.info? 31).map (·.size) = some (#[.int .u8 b0, .int .u8 b1, .int .u8 b2, .int .u8 b3, .int .u8 b4, .int .u8 b5, .int .u8 b6, .int .u8 b7, .int .u8 b8, .int .u8 b9, .int .u8 b10, .int .u8 b11, .int .u8 b12, .int .u8 b13, .int .u8 b14, .int .u8 b15, .int .u8 b16, .int .u8 b17, .int .u8 b18, .int .u8 b19, .int .u64 0, .int .u64 0, .int .u64 0, .int .u64 0, .int .i64 0, .string { data := #[] }, .slice none 0 0] : Array Value).size := infoAc
   have ho7 : (#[.int .u8 0, .int .u8 0, .int .u8 0, .int .u8 0, .int .u8 0, .int .u8 0, .int .u8 0, .int .u8 0, .int .u8 0, .int .u8 0, .int .u8 0, .int .u8 0, .int .u8 0, .int .u8 0, .int .u8 0, .int .u8 0, .int .u8 0, .int .u8 0, .int .u8 0, .int .u8 0, .int .u64 0, .int .u64 0, .int .u64 0, .int .u64 0, .int .i64 0, .string { data := #[] }, .slice none 0 0] : Array Value).size = (#[.int .u8 b0, .int .u8 b1, .int .u8 b2, .int .u8 b3, .int .u8 b4, .int .u8 b5, .int .u8 b6, .int .u8 b7, .int .u8 b8, .int .u8 b9, .int .u8 b10, .int .u8 b11, .int .u8 b12, .int .u8 b13, .int .u8 b14, .int .u8 b15, .int .u8 b16, .int .u8 b17, .int .u8 b18, .int .u8 b19, .int .u64 0, .int .u64 0, .int .u64 0, .int .u64 0, .int .i64 0, .string { data := #[] }, .slice none 0 0] : Array Value).size := rfl
   have ha7 : (#[.int .u8 b0, .int .u8 b1, .int .u8 b2, .int .u8 b3, .int .u8 b4, .int .u8 b5, .int .u8 b6, .int .u8 b7, .int .u8 b8, .int .u8 b9, .int .u8 b10, .int .u8 b11, .int .u8 b12, .int .u8 b13, .int .u8 b14, .int .u8 b15, .int .u8 b16, .int .u8 b17, .int .u8 b18, .int .u8 b19, .int .u64 0, .int .u64 0, .int .u64 0, .int .u64 0, .int .i64 0, .string { data := #[] }, .slice none 0 0] : Array Value).all (·.oneCell') = true := by rw [← hcz]; exact acC_one _ _ rfl
   have h7 : Has (wr.setRow V.heap.size #[.int .u8 b0, .int .u8 b1, .int .u8 b2, .int .u8 b3, .int .u8 b4, .int .u8 b5, .int .u8 b6, .int .u8 b7, .int .u8 b8, .int .u8 b9, .int .u8 b10, .int .u8 b11, .int .u8 b12, .int .u8 b13, .int .u8 b14, .int .u8 b15, .int .u8 b16, .int .u8 b17, .int .u8 b18, .int .u8 b19, .int .u64 0, .int .u64 0, .int .u64 0, .int .u64 0, .int .i64 0, .string { data := #[] }, .slice none 0 0]) V.heap.size 31 #[.int .u8 b0, .int .u8 b1, .int .u8 b2, .int .u8 b3, .int .u8 b4, .int .u8 b5, .int .u8 b6, .int .u8 b7, .int .u8 b8, .int .u8 b9, .int .u8 b10, .int .u8 b11, .int .u8 b12, .int .u8 b13, .int .u8 b14, .int .u8 b15, .int .u8 b16, .int .u8 b17, .int .u8 b18, .int .u8 b19, .int .u64 0, .int .u64 0, .int .u64 0, .int .u64 0, .int .i64 0, .string { data := #[] }, .slice none 0 0] := setRow_heap _ _ _ _ _ _ B6
   have Q7 := hid ((Q0.out.trans (HQ.out.mono Q0.out.size)).trans (below_rowAc (Below.refl wr.heap.size wr |>.mono (Nat.le_trans Q0.out.size HQ.out.size)) (g := V.heap.size) (by have := HVW.out; omega) #[.int .u8 b0, .int .u8 b1, .int .u8 b2, .int .u8 b3, .int .u8 b4, .int .u8 b5, .int .u8 b6, .int .u8 b7, .int .u8 b8, .int .u8 b9, .int .u8 b10, .int .u8 b11, .int .u8 b12, .int .u8 b13, .int .u8 b14, .int .u8 b15, .int .u8 b16, .int .u8 b17, .int .u8 b18, .int .u8 b19, .int .u64 0, .int .u64 0, .int .u64 0, .int .u64 0, .int .i64 0, .string { data := #[] }, .slice none 0 0]))
   replace hcz := hid hcz
   clear hlit
   go_wp2_with (first | (refine wpList_load_known rfl _ (.tmp 3) rfl _ rfl _ ht8 ?_) | (refine wpList_store_row rfl _ (.tmp 4) (.tmp 25) rfl _ _ rfl rfl _ _ B6 hi7 ho7 ha7 ?_))
   try simp only [Exit.inBlock, Exit.then]
   refine bodyPost_ret (results_cell_row rfl _ _ V.heap.size 31 _ (0, 0) _ rfl h7 Tryz.underlying31 rfl hi7) rfl ?_
   rw [HFA.out]
   exact ⟨.slice none 0 0, by rw [hcz.out], World.ownsRow_nil _ _ _ _, (by simp), Q7.out⟩
theorem right_no {l : List Ac} {k : Nat} {x : Ac} (hx : l[k]? = some x) (h : strayB x = true) : rightS l = false := by
 unfold rightS
 have : l.all (fun x => !strayB x) = false := by
  rw [List.all_eq_false]
  exact ⟨x, List.mem_of_getElem? hx, by simp [h]⟩
 rw [this]
 simp
theorem right_low {l : List Ac} {k : Nat} {x y : Ac} (hx : l[k]? = some x) (hy : l[k + 1]? = some y) (h : ¬ x.at_ < y.at_) : rightS l = false := by
 unfold rightS
 rw [upsB_false (fun hu => h (ups_at.1 hu k x y hx hy))]
 simp
theorem right_all {l : List Ac} (h1 : ∀ (j : Nat) (x : Ac), l[j]? = some x → strayB x = false) (h2 : ∀ (j : Nat) (x y : Ac), l[j]? = some x → l[j + 1]? = some y → x.at_ < y.at_) : rightS l = decide (l.length ≤ 200) := by
 unfold rightS
 rw [(upsB_iff l).2 (ups_at.2 h2), List.all_eq_true.2 (fun x hx => by
  obtain ⟨j, hj⟩ := List.getElem?_of_mem hx
  simp [h1 j x hj])]
 simp
theorem refRight_any8 (W : World) (sv : Value) (l : List Ac) (hs : StAt W sv l) :
  Calls Tryz.prog 11 #[sv] W fun e w' => e = .returned (.bool (rightS l)) ∧ Below W.heap.size W w' := by
 have hmx : Tryz.prog.follows .mixedOrders = true := by kernel_rfl
 obtain ⟨a, cap, rfl, hnc, hcm⟩ := hs.shape
 have HS := hid hs
 obtain ⟨n, hn⟩ : ∃ n, l.length = n := ⟨_, rfl⟩
 rw [hn] at HS hnc ⊢
 have HN := hid hn
 have hlc := hid (Nat.le_trans hnc hcm)
 clear hs hnc hcm hn
 have hfin := hid (show ∀ X v, Below W.heap.size W X → rightS l = v → (Ending.returned (.bool v) = .returned (.bool (rightS l)) ∧ Below W.heap.size W X) from fun X v hX h => ⟨by rw [h], hX⟩)
 obtain ⟨Post, hPost⟩ : ∃ Post : Ending → World → Prop, (fun (e : Ending) (w' : World) => e = .returned (.bool (rightS l)) ∧ Below W.heap.size W w') = Post := ⟨_, rfl⟩
 replace hfin := hid (show ∀ X v, Below W.heap.size W X → rightS l = v → Post (.returned (.bool v)) X by rw [← hPost]; exact hfin.out)
 rw [hPost]
 clear hPost
 go_enter Tryz.func11, Tryz.ntmps11
 go_wp2_with fail
 go_loopw [3] (fun i wr => ∃ k : Nat, k ≤ n ∧ i = .int .i64 (k : Int) ∧ (∀ (j : Nat) (x : Ac), j < k → l[j]? = some x → strayB x = false) ∧ (∀ (j : Nat) (x y : Ac), j + 1 < k → l[j]? = some x → l[j + 1]? = some y → x.at_ < y.at_) ∧ Below W.heap.size W wr) (fun i _ => n - (intOf i).toNat)
 case atStart => exact ⟨0, by omega, rfl, fun j x h => absurd h (by omega), fun j x y h => absurd h (by omega), Below.refl _ _⟩
 case round =>
  obtain ⟨k, hk, rfl, hst, hlt, hq⟩ := hrel
  have HST := hid hst
  have HLT := hid hlt
  have HQ := hid hq
  clear hst hlt hq
  by_cases hkn : k < n
  ·have hknI : (k : Int) < (n : Int) := by omega
   have hk0 : (0 : Int) ≤ (k : Int) := by omega
   have hkb : (k : Int) ≤ 9223372036854775806 := by have := hlc.out; omega
   obtain ⟨y, hy⟩ : ∃ y, l[k]? = some y := ⟨_, List.getElem?_eq_getElem (by have := HN.out; omega)⟩
   obtain ⟨b, sy, rfl, ay⟩ := (HS.out.later HQ.out).at hy
   have hyo := HS.out.ok hy
   have LY := hid (show ∀ z : World, Grows wr z → (loadVar 31 (b.add (k * 27))).run Tryz.prog z = .ok (.agg (acC y sy)) z from fun z hz => by obtain ⟨q, rfl⟩ := hz; exact (ay.later q.below).load)
   have LD := hid (show ∀ z : World, Grows wr z → (loadVar 25 (b.add (k * 27))).run Tryz.prog z = .ok (.agg (adC y.at_)) z from fun z hz => by obtain ⟨q, rfl⟩ := hz; exact (ay.later q.below).loadAd)
   have KM := hid (fun z : Ext wr => Ext.at (refMay_any8 z.w y sy hyo (ay.later z.below).slots))
   have KE := hid (fun z : Ext wr => Ext.at (refEmpty_any8 z.w y sy hyo (ay.later z.below).slots))
   have HSB := hid (show strayB y = (emptyB y || !mayB y) from rfl)
   have HX := hid hy
   have HK := hid hkn
   have HYO := hid hyo.at_
   clear hy hk hkn ay hyo
   generalize acC y sy = cy at *
   generalize emptyB y = eb at *
   generalize mayB y = mb at *
   cases mb with
   | false =>
    go_wp2_with fail
    try simp only [List.append]
    refine wp_region_quietL (C := Grows wr) hmx (by kernel_rfl) (grows_refl wr) ?_
    repeat (first | (with_reducible refine wpQuiet_load rfl 31 _ rfl _ rfl _ LY.out ?_; simp only [Act.put, sT, sS, sZ]) | (go_big_quiet_step (first | (with_reducible exact KM.out _) | (with_reducible exact KE.out _))))
    refine wpQuiet_nil ?_
    rintro _ ⟨z, rfl⟩
    have HE := hid (HQ.out.trans (z.below.mono HQ.out.size))
    have hno := hid (show rightS l = false from right_no HX.out (by rw [HSB.out]; simp))
    go_wp2_with fail
    exact hfin.out _ _ HE.out hno.out
   | true =>
    cases eb with
    | true =>
     go_wp2_with fail
     try simp only [List.append]
     refine wp_region_quietL (C := Grows wr) hmx (by kernel_rfl) (grows_refl wr) ?_
     repeat (first | (with_reducible refine wpQuiet_load rfl 31 _ rfl _ rfl _ LY.out ?_; simp only [Act.put, sT, sS, sZ]) | (go_big_quiet_step (first | (with_reducible exact KM.out _) | (with_reducible exact KE.out _))))
     refine wpQuiet_nil ?_
     rintro _ ⟨z, rfl⟩
     have HE := hid (HQ.out.trans (z.below.mono HQ.out.size))
     have hno := hid (show rightS l = false from right_no HX.out (by rw [HSB.out]; simp))
     go_wp2_with fail
     exact hfin.out _ _ HE.out hno.out
    | false =>
     have HSY := hid (show strayB y = false by rw [HSB.out]; rfl)
     by_cases hk1 : k = 0
     ·subst hk1
      have h00 : ¬ ((0 : Nat) : Int) > 0 := by decide
      go_wp2_with fail
      try simp only [List.append]
      refine wp_region_quietL (C := Grows wr) hmx (by kernel_rfl) (grows_refl wr) ?_
      repeat (first | (with_reducible refine wpQuiet_load rfl 31 _ rfl _ rfl _ LY.out ?_; simp only [Act.put, sT, sS, sZ]) | (go_big_quiet_step (first | (with_reducible exact KM.out _) | (with_reducible exact KE.out _))))
      refine wpQuiet_nil ?_
      rintro _ ⟨z, rfl⟩
      have HE := hid (HQ.out.trans (z.below.mono HQ.out.size))
      go_wp2_with fail
      go_roundw
      case rel =>
       refine ⟨0 + 1, by have := HK.out; omega, by simp, fun j x' hj h1 => ?_, fun j x' y' hj h1 h2 => ?_, HE.out⟩
       ·by_cases hjk : j < 0
        ·exact HST.out j x' hjk h1
        ·obtain rfl : j = 0 := by omega
         rw [HX.out] at h1
         injection h1 with h1
         subst h1
         exact HSY.out
       ·by_cases hjk : j + 1 < 0
        ·exact HLT.out j x' y' hjk h1 h2
        ·omega
      case measure => have := HK.out; simp [intOf]; omega
     ·obtain ⟨m, hm⟩ : ∃ m, k - 1 = m := ⟨_, rfl⟩
      have hk2 : (0 : Int) < (k : Int) := by omega
      have hk3 : 0 < k := by omega
      have hm1 : (k : Int) - 1 = (m : Int) := by omega
      have hm2 : (m : Int) < (n : Int) := by omega
      obtain ⟨x, hx⟩ : ∃ x, l[m]? = some x := ⟨_, List.getElem?_eq_getElem (by have := HN.out; omega)⟩
      obtain ⟨sx, ax⟩ := (HS.out.later HQ.out).in hx
      have LX := hid (show ∀ z : World, Grows wr z → (loadVar 25 (b.add (m * 27))).run Tryz.prog z = .ok (.agg (adC x.at_)) z from fun z hz => by obtain ⟨q, rfl⟩ := hz; exact (ax.later q.below).loadAd)
      have KL := hid (fun z : Ext wr => Ext.at (refLess_any8 z.w x.at_ y.at_ (HS.out.ok hx).at_ HYO.out))
      have HM := hid (show m + 1 = k by omega)
      have HXX := hid hx
      clear hx ax hk1 hm
      generalize adC x.at_ = cx at *
      generalize adC y.at_ = cd at *
      by_cases hless : x.at_ < y.at_
      ·rw [decide_eq_true hless] at KL
       have HLS := hid hless
       clear hless
       go_wp2_with fail
       try simp only [List.append]
       refine wp_region_quietL (C := Grows wr) hmx (by kernel_rfl) (grows_refl wr) ?_
       repeat (first | (with_reducible refine wpQuiet_load rfl 31 _ rfl _ rfl _ LY.out ?_; simp only [Act.put, sT, sS, sZ]) | (with_reducible refine wpQuiet_load rfl 25 _ rfl _ rfl _ LX.out ?_; simp only [Act.put, sT, sS, sZ]) | (with_reducible refine wpQuiet_load rfl 25 _ rfl _ rfl _ LD.out ?_; simp only [Act.put, sT, sS, sZ]) | (go_big_quiet_step (first | (with_reducible exact KM.out _) | (with_reducible exact KE.out _) | (with_reducible exact KL.out _))))
       refine wpQuiet_nil ?_
       rintro _ ⟨z, rfl⟩
       have HE := hid (HQ.out.trans (z.below.mono HQ.out.size))
       go_wp2_with fail
       go_roundw
       case rel =>
        refine ⟨k + 1, by have := HK.out; omega, by simp, fun j x' hj h1 => ?_, fun j x' y' hj h1 h2 => ?_, HE.out⟩
        ·by_cases hjk : j < k
         ·exact HST.out j x' hjk h1
         ·obtain rfl : j = k := by omega
          rw [HX.out] at h1
          injection h1 with h1
          subst h1
          exact HSY.out
        ·by_cases hjk : j + 1 < k
         ·exact HLT.out j x' y' hjk h1 h2
         ·have hjk' : j = m := by have := HM.out; omega
          subst hjk'
          rw [HXX.out] at h1
          rw [HM.out, HX.out] at h2
          injection h1 with h1
          injection h2 with h2
          subst h1 h2
          exact HLS.out
       case measure => have := HK.out; simp [intOf]; omega
      ·rw [decide_eq_false hless] at KL
       have HLS := hid hless
       clear hless
       go_wp2_with fail
       try simp only [List.append]
       refine wp_region_quietL (C := Grows wr) hmx (by kernel_rfl) (grows_refl wr) ?_
       repeat (first | (with_reducible refine wpQuiet_load rfl 31 _ rfl _ rfl _ LY.out ?_; simp only [Act.put, sT, sS, sZ]) | (with_reducible refine wpQuiet_load rfl 25 _ rfl _ rfl _ LX.out ?_; simp only [Act.put, sT, sS, sZ]) | (with_reducible refine wpQuiet_load rfl 25 _ rfl _ rfl _ LD.out ?_; simp only [Act.put, sT, sS, sZ]) | (go_big_quiet_step (first | (with_reducible exact KM.out _) | (with_reducible exact KE.out _) | (with_reducible exact KL.out _))))
       refine wpQuiet_nil ?_
       rintro _ ⟨z, rfl⟩
       have HE := hid (HQ.out.trans (z.below.mono HQ.out.size))
       have hno := hid (show rightS l = false from right_low HXX.out (by rw [HM.out]; exact HX.out) HLS.out)
       go_wp2_with fail
       exact hfin.out _ _ HE.out hno.out
  ·obtain rfl : k = n := by omega
   have hkk : ¬ (k : Int) < (k : Int) := by omega
   have hyes := hid (show rightS l = decide (k ≤ 200) from by
    rw [← HN.out]
    exact right_all (fun j x hj => HST.out j x (by have := (List.getElem?_eq_some_iff.1 hj).1; have := HN.out; omega) hj) (fun j x y hx hy => HLT.out j x y (by have := (List.getElem?_eq_some_iff.1 hy).1; have := HN.out; omega) hx hy))
   clear hk hkn
   by_cases h200 : k ≤ 200
   ·have hI : (k : Int) ≤ 200 := by omega
    rw [decide_eq_true h200] at hyes
    clear h200
    go_wp2_with fail
    exact hfin.out _ _ HQ.out hyes.out
   ·have hI : ¬ (k : Int) ≤ 200 := by omega
    rw [decide_eq_false h200] at hyes
    clear h200
    go_wp2_with fail
    exact hfin.out _ _ HQ.out hyes.out
def gtB (l : List Ac) (t : Nat) : Bool := l.any fun y => decide (t < y.at_)
noncomputable def xS (x : Ac) : List Ac := if emptyB x = true then [] else [x]
noncomputable def outM (l : List Ac) (x : Ac) : List Ac := l.filter (fun y => decide (y.at_ < x.at_)) ++ (if gtB l x.at_ = true then xS x else []) ++ l.filter (fun y => decide (x.at_ < y.at_))
theorem gt_none {l : List Ac} {t : Nat} (h : gtB l t = false) : l.filter (fun y => decide (t < y.at_)) = [] := by
 unfold gtB at h
 rw [List.any_eq_false] at h
 rw [List.filter_eq_nil_iff]
 exact h
theorem gt_snoc (l : List Ac) (y : Ac) (t : Nat) : gtB (l ++ [y]) t = (gtB l t || decide (t < y.at_)) := by
 unfold gtB
 rw [List.any_append]
 simp
theorem out_nil (x : Ac) : outM [] x = [] := by
 unfold outM gtB
 simp
theorem out_eq {l : List Ac} {x y : Ac} (h : y.at_ = x.at_) : outM (l ++ [y]) x = outM l x ∧ gtB (l ++ [y]) x.at_ = gtB l x.at_ := by
 have e : gtB (l ++ [y]) x.at_ = gtB l x.at_ := by
  rw [gt_snoc, decide_eq_false (by omega), Bool.or_false]
 refine ⟨?_, e⟩
 unfold outM
 rw [e, List.filter_append, List.filter_append, List.filter_cons_of_neg (by simp; omega), List.filter_cons_of_neg (by simp; omega)]
 simp
theorem out_lt {l : List Ac} {x y : Ac} (h : y.at_ < x.at_) (hl : ∀ z ∈ l, z.at_ < y.at_) : outM (l ++ [y]) x = outM l x ++ [y] ∧ gtB (l ++ [y]) x.at_ = false ∧ gtB l x.at_ = false := by
 have e0 : gtB l x.at_ = false := by
  unfold gtB
  rw [List.any_eq_false]
  intro z hz
  have := hl z hz
  simp
  omega
 have e : gtB (l ++ [y]) x.at_ = false := by rw [gt_snoc, e0, decide_eq_false (by omega)]; rfl
 refine ⟨?_, e, e0⟩
 unfold outM
 rw [e, e0, gt_none e, gt_none e0, List.filter_append, List.filter_cons_of_pos (by simpa using h)]
 simp
theorem out_gt {l : List Ac} {x y : Ac} (h : x.at_ < y.at_) : gtB (l ++ [y]) x.at_ = true ∧ (gtB l x.at_ = true → outM (l ++ [y]) x = outM l x ++ [y]) ∧ (gtB l x.at_ = false → outM (l ++ [y]) x = (outM l x ++ xS x) ++ [y]) := by
 have e : gtB (l ++ [y]) x.at_ = true := by rw [gt_snoc, decide_eq_true h, Bool.or_true]
 refine ⟨e, fun e0 => ?_, fun e0 => ?_⟩
 ·unfold outM
  rw [e, e0, List.filter_append, List.filter_append, List.filter_cons_of_neg (by simp; omega), List.filter_cons_of_pos (by simpa using h)]
  simp
 ·unfold outM
  rw [e, e0, List.filter_append, List.filter_append, List.filter_cons_of_neg (by simp; omega), List.filter_cons_of_pos (by simpa using h), gt_none e0]
  simp
theorem out_end (l : List Ac) (x : Ac) : (gtB l x.at_ = true → putA l x = outM l x) ∧ (gtB l x.at_ = false → putA l x = outM l x ++ xS x) := by
 refine ⟨fun e => ?_, fun e => ?_⟩
 ·unfold putA outM xS
  rw [if_pos e]
 ·unfold putA outM
  rw [gt_none e]
  simp [e, xS]
theorem out_len (l : List Ac) (x : Ac) : (outM l x).length ≤ 2 * l.length + 1 := by
 unfold outM xS
 have h1 := List.length_filter_le (fun y : Ac => decide (y.at_ < x.at_)) l
 have h2 := List.length_filter_le (fun y : Ac => decide (x.at_ < y.at_)) l
 simp only [List.length_append]
 split
 ·split <;> simp <;> omega
 ·simp; omega
theorem ups_ahead {l : List Ac} (hu : Ups l) {k : Nat} {y : Ac} (hy : l[k]? = some y) : ∀ z ∈ l.take k, z.at_ < y.at_ := fun z hz => by
 obtain ⟨j, hj⟩ := List.getElem?_of_mem hz
 rw [List.getElem?_take] at hj
 split at hj
 ·rename_i hjk
  exact hu.lt hjk hj hy
 ·cases hj
def OutR (w : World) (lo : Nat) (v : Value) (m : List Ac) : Prop := ∃ ps : List Pa, ps.map (·.1) = m ∧ RowA w lo v ps ∧ ∀ p ∈ ps, AcOk p.1 ∧ RowT w lo p.2 p.1.slots ∧ ∀ y ∈ p.1.slots, W256 y.1 ∧ W256 y.2
theorem OutR.nil (w : World) (lo : Nat) : OutR w lo (.slice none 0 0) [] := ⟨[], rfl, RowA.nil _ _, fun p hp => by cases hp⟩
theorem OutR.later {w w' : World} {lo : Nat} {v : Value} {m : List Ac} (h : OutR w lo v m) (hb : Below w.heap.size w w') : OutR w' lo v m := by
 obtain ⟨ps, h1, h2, h3⟩ := h
 exact ⟨ps, h1, h2.later hb, fun p hp => ⟨(h3 p hp).1, (h3 p hp).2.1.later hb, (h3 p hp).2.2⟩⟩
theorem OutR.shape {w : World} {lo : Nat} {v : Value} {m : List Ac} (h : OutR w lo v m) : ∃ a c, v = .slice a m.length c := by
 obtain ⟨ps, h1, h2, _⟩ := h
 obtain ⟨a, c, e⟩ := h2.shape
 exact ⟨a, c, by rw [e, ← h1, List.length_map]⟩
theorem OutR.push {w : World} {lo : Nat} {v : Value} {m : List Ac} (h : OutR w lo v m) (hlo : lo ≤ w.heap.size) (hl : m.length ≤ 99999) (x : Ac) (sx : Value) (h1 : sx.oneCell' = true) (hx : AcOk x) (hr : RowT w lo sx x.slots) (hw : ∀ y ∈ x.slots, W256 y.1 ∧ W256 y.2) :
  ∃ v' w', (Builtin.append_ #[22, 22] 22 #[v, .slice (some ⟨w.heap.size, 0, none⟩) 1 1]).run Tryz.prog (w.alloc (.cells (acC x sx) 31)) = .ok v' w' ∧ OutR w' lo v' (m ++ [x]) ∧ Below lo w w' := by
 obtain ⟨ps, e, hrow, hall⟩ := h
 have hpl : ps.length = m.length := by rw [← e, List.length_map]
 obtain ⟨v', w', happ, hrow', hkeep, hbel⟩ := push_ac w lo v ps hrow hlo (by omega) x sx h1
 refine ⟨v', w', happ, ⟨ps ++ [(x, sx)], by rw [List.map_append, e]; rfl, hrow', fun p hp => ?_⟩, hbel⟩
 rcases List.mem_append.1 hp with h | h
 ·exact ⟨(hall p h).1, hkeep _ _ _ (hall p h).2.1, (hall p h).2.2⟩
 ·simp at h
  subst h
  exact ⟨hx, hkeep _ _ _ hr, hw⟩
theorem refSet_good (W : World) (sv : Value) (l : List Ac) (hs : StAt W sv l) (hr : rightS l = true) (hsl : ∀ y ∈ l, y.slots.length ≤ 100000) (x : Ac) (sx : Value) (hx : AcOk x) (hm : mayB x = true) (hsx : SlotsAt W sx x.slots) (hxl : x.slots.length ≤ 100000) (hput : (putA l x).length ≤ 200) :
  Calls Tryz.prog 21 #[sv, .agg (acC x sx)] W fun e w' => ∃ v, e = .returned (.tuple #[v, .int .i64 0]) ∧ StK w' v (putA l x) ∧ Below W.heap.size W w' := by
 have hmx : Tryz.prog.follows .mixedOrders = true := by kernel_rfl
 obtain ⟨xa, xc, rfl, _, _⟩ := hsx.shape
 have hB := Has.new W 31 (acC x (.slice xa x.slots.length xc))
 have hq0 := newA W (.cells (acC x (.slice xa x.slots.length xc)) 31)
 obtain ⟨V, hV⟩ : ∃ V, W.alloc (.cells (acC x (.slice xa x.slots.length xc)) 31) = V := ⟨_, rfl⟩
 rw [hV] at hB hq0
 have HU := hid (show Ups l by
  unfold rightS at hr
  rw [Bool.and_eq_true, Bool.and_eq_true] at hr
  exact (upsB_iff l).1 hr.2.1)
 have HLL := hid (show l.length ≤ 200 by
  unfold rightS at hr
  rw [Bool.and_eq_true] at hr
  exact of_decide_eq_true hr.1)
 have KR := hid (show Calls Tryz.prog 11 #[sv] V (fun e w' => e = .returned (.bool true) ∧ Below V.heap.size V w') from by
  have h := refRight_any8 V sv l (hs.later hq0)
  rw [hr] at h
  exact h)
 have KM := hid (fun (X : World) (hX : Below V.heap.size V X) => (show Calls Tryz.prog 32 #[.agg (acC x (.slice xa x.slots.length xc))] X (fun e w' => e = .returned (.bool true) ∧ Below X.heap.size X w') from by
  have h := refMay_any8 X x _ hx ((hsx.later hq0).later hX)
  rw [hm] at h
  exact h))
 have KE := hid (fun (X : World) (hX : Below V.heap.size V X) => refEmpty_any8 X x _ hx ((hsx.later hq0).later hX))
 have KO := hid (fun (X : World) (hX : Below V.heap.size V X) => refOwn_any8 X x _ ((hsx.later hq0).later hX) hxl)
 have LX := hid (fun (X : World) (hX : Below V.heap.size V X) => (hB.later hX).accLoad)
 have LXD := hid (fun (X : World) (hX : Below V.heap.size V X) => (hB.later hX).accAdLoad)
 have HEQ := hid (fun (y : Ac) (hy : AcOk y) (X : World) => eq20 y.at_ x.at_ hy.at_ hx.at_ X)
 have HXO := hid hx
 have HXW := hid hsx.wideAll
 have HSL := hid hsl
 have HP := hid hput
 have Q0 := hid hq0
 obtain ⟨a, cap, rfl, hnc, hcm⟩ := hs.shape
 have HS := hid (hs.later hq0)
 obtain ⟨n, hn⟩ : ∃ n, l.length = n := ⟨_, rfl⟩
 rw [hn] at HS hnc KR HLL ⊢
 have HN := hid hn
 have hlc := hid (Nat.le_trans hnc hcm)
 clear hs hr hsl hx hm hsx hxl hput hB hq0 hnc hcm hn
 obtain ⟨cx, hcx⟩ : ∃ cx, acC x (.slice xa x.slots.length xc) = cx := ⟨_, rfl⟩
 rw [hcx] at KM KE KO LX hV ⊢
 clear hcx
 obtain ⟨cd, hcd⟩ : ∃ cd, adC x.at_ = cd := ⟨_, rfl⟩
 have HCD := hid hcd
 rw [hcd] at LXD HEQ
 clear hcd
 obtain ⟨eb, heb⟩ : ∃ eb, emptyB x = eb := ⟨_, rfl⟩
 have HEB := hid heb
 rw [heb] at KE
 clear heb
 go_enter Tryz.func21, Tryz.ntmps21
 go_wp2_with fail
 refine KR.out.mono ?_
 rintro _ w1 ⟨rfl, hb⟩
 have Q1 := hid hb
 have LL := LX.out w1 Q1.out
 have CC := hid (KM.out w1 Q1.out)
 clear hb KR hV
 go_wp2_with (refine wpList_load_known rfl _ (.tmp 3) rfl _ rfl _ LL ?_)
 refine CC.out.mono ?_
 rintro _ w2 ⟨rfl, hb⟩
 have Q2 := hid (Q1.out.trans (hb.mono Q1.out.size))
 clear hb CC LL
 have LL := LX.out w2 Q2.out
 have CC := hid (KE.out w2 Q2.out)
 go_wp2_with (refine wpList_load_known rfl _ (.tmp 3) rfl _ rfl _ LL ?_)
 refine CC.out.mono ?_
 rintro _ w3 ⟨rfl, hb⟩
 have Q3 := hid (Q2.out.trans (hb.mono Q2.out.size))
 clear hb CC LL
 go_wp2_with fail
 go_loopw [6, 7, 8] (fun ov dv i wr => ∃ k : Nat, k ≤ n ∧ i = .int .i64 (k : Int) ∧ dv = .bool (eb || gtB (l.take k) x.at_) ∧ OutR wr V.heap.size ov (outM (l.take k) x) ∧ Below V.heap.size V wr) (fun _ _ i _ => n - (intOf i).toNat)
 case atStart => exact ⟨0, by omega, rfl, by rw [List.take_zero]; unfold gtB; simp, by rw [List.take_zero, out_nil]; exact OutR.nil _ _, Q3.out⟩
 case round =>
  obtain ⟨k, hk, rfl, rfl, hrow, hq⟩ := hrel
  obtain ⟨ov, hov⟩ : ∃ ov, ov = u6 := ⟨_, rfl⟩
  subst hov
  have HQ := hid hq
  have HROW := hid hrow
  have HK := hid hk
  clear hrow hq
  by_cases hkn : k < n
  ·have hknI : (k : Int) < (n : Int) := by omega
   have hk0 : (0 : Int) ≤ (k : Int) := by omega
   have hkb : (k : Int) ≤ 9223372036854775806 := by have := hlc.out; omega
   obtain ⟨y, hy⟩ : ∃ y, l[k]? = some y := ⟨_, List.getElem?_eq_getElem (by have := HN.out; omega)⟩
   obtain ⟨b, sy, rfl, ay⟩ := (HS.out.later HQ.out).at hy
   obtain ⟨ya, yc, rfl, _, _⟩ := ay.slots.shape
   have hyo := HS.out.ok hy
   have LY := hid (fun (X : World) (hX : Below V.heap.size V X) => (show (loadVar 25 (b.add (k * 27))).run Tryz.prog X = .ok (.agg (adC y.at_)) X from by
    obtain ⟨s', ay'⟩ := (HS.out.later hX).in hy
    exact ay'.loadAd))
   have AY := hid ay
   have he6 := HEQ.out y hyo
   have KL := hid (fun X : World => refLess_any8 X x.at_ y.at_ HXO.out.at_ hyo.at_)
   rw [HCD.out] at KL
   have HYO := hid hyo
   have HYW := hid ay.slots.wideAll
   have HYL := hid (HSL.out y (List.mem_of_getElem? hy))
   have HX := hid (And.intro hy hkn)
   have HTK := hid (show l.take (k + 1) = l.take k ++ [y] by rw [List.take_add_one, hy]; rfl)
   have HAH := hid (ups_ahead HU.out hy)
   have HLN := hid (show (outM (l.take k) x).length ≤ 99990 by
    have h1 := out_len (l.take k) x
    have h2 := List.length_take_le k l
    have := HLL.out
    have := HK.out
    omega)
   clear hy hkn hk ay hyo
   obtain ⟨cy, hcy⟩ : ∃ cy, adC y.at_ = cy := ⟨_, rfl⟩
   rw [hcy] at LY he6 KL
   clear hcy
   obtain ⟨d, hd⟩ : ∃ d, (eb || gtB (l.take k) x.at_) = d := ⟨_, rfl⟩
   rw [hd]
   have HD := hid hd
   clear hd
   by_cases he : y.at_ = x.at_
   ·rw [decide_eq_true he] at he6
    have HE := hid he
    clear he
    have LA := hid (show ∀ z : World, Grows wr z → (loadVar 25 (b.add (k * 27))).run Tryz.prog z = .ok (.agg cy) z from fun z hz => by obtain ⟨q, rfl⟩ := hz; exact LY.out _ (HQ.out.trans (q.below.mono HQ.out.size)))
    have LD := hid (show ∀ z : World, Grows wr z → (loadVar 25 ⟨W.heap.size, 0, none⟩).run Tryz.prog z = .ok (.agg cd) z from fun z hz => by obtain ⟨q, rfl⟩ := hz; exact LXD.out _ (HQ.out.trans (q.below.mono HQ.out.size)))
    go_wp2_with fail
    refine wp_region_quietL (C := Grows wr) hmx (by kernel_rfl) (grows_refl wr) ?_
    repeat (first | (with_reducible refine wpQuiet_load rfl 25 _ rfl _ rfl _ LA.out ?_; simp only [Act.put, sT, sS, sZ]) | (with_reducible refine wpQuiet_load rfl 25 _ rfl _ rfl _ LD.out ?_; simp only [Act.put, sT, sS, sZ]) | (go_big_quiet_step (fail)))
    refine wpQuiet_nil ?_
    rintro _ ⟨z, rfl⟩
    have QZ := hid (HQ.out.trans (z.below.mono HQ.out.size))
    have RZ := hid (HROW.out.later z.below)
    have AZ := hid (AY.out.later z.below)
    clear LA LD he6
    obtain ⟨Z, hZ⟩ : ∃ Z, Z = z.w := ⟨_, rfl⟩
    rw [← hZ] at QZ RZ AZ ⊢
    clear hZ
    go_wp2_with fail
    go_roundw
    case rel => exact ⟨k + 1, by have := HX.out.2; omega, by simp, by rw [HTK.out, (out_eq HE.out).2, HD.out], by rw [HTK.out, (out_eq HE.out).1]; exact RZ.out, QZ.out⟩
    case measure => have := HX.out.2; simp [intOf]; omega
   ·rw [decide_eq_false he] at he6
    have LA := hid (show ∀ z : World, Grows wr z → (loadVar 25 (b.add (k * 27))).run Tryz.prog z = .ok (.agg cy) z from fun z hz => by obtain ⟨q, rfl⟩ := hz; exact LY.out _ (HQ.out.trans (q.below.mono HQ.out.size)))
    have LD := hid (show ∀ z : World, Grows wr z → (loadVar 25 ⟨W.heap.size, 0, none⟩).run Tryz.prog z = .ok (.agg cd) z from fun z hz => by obtain ⟨q, rfl⟩ := hz; exact LXD.out _ (HQ.out.trans (q.below.mono HQ.out.size)))
    go_wp2_with fail
    refine wp_region_quietL (C := Grows wr) hmx (by kernel_rfl) (grows_refl wr) ?_
    repeat (first | (with_reducible refine wpQuiet_load rfl 25 _ rfl _ rfl _ LA.out ?_; simp only [Act.put, sT, sS, sZ]) | (with_reducible refine wpQuiet_load rfl 25 _ rfl _ rfl _ LD.out ?_; simp only [Act.put, sT, sS, sZ]) | (go_big_quiet_step (fail)))
    refine wpQuiet_nil ?_
    rintro _ ⟨z, rfl⟩
    have QZ := hid (HQ.out.trans (z.below.mono HQ.out.size))
    have RZ := hid (HROW.out.later z.below)
    have AZ := hid (AY.out.later z.below)
    clear LA LD he6
    obtain ⟨Z, hZ⟩ : ∃ Z, Z = z.w := ⟨_, rfl⟩
    rw [← hZ] at QZ RZ AZ ⊢
    clear hZ
    by_cases hlt : y.at_ < x.at_
    ·have HLT := hid hlt
     rw [decide_eq_false (show ¬ x.at_ < y.at_ by omega)] at KL
     clear he hlt
     have HOL := hid (out_lt HLT.out HAH.out)
     cases d with
     | false =>
      have LA := hid (show ∀ z : World, Grows Z z → (loadVar 25 (b.add (k * 27))).run Tryz.prog z = .ok (.agg cy) z from fun z hz => by obtain ⟨q, rfl⟩ := hz; exact LY.out _ (QZ.out.trans (q.below.mono QZ.out.size)))
      have LD := hid (show ∀ z : World, Grows Z z → (loadVar 25 ⟨W.heap.size, 0, none⟩).run Tryz.prog z = .ok (.agg cd) z from fun z hz => by obtain ⟨q, rfl⟩ := hz; exact LXD.out _ (QZ.out.trans (q.below.mono QZ.out.size)))
      have KLL := hid (fun z : Ext Z => Ext.at (KL.out z.w))
      go_wp2_with fail
      refine wp_region_quietL (C := Grows Z) hmx (by kernel_rfl) (grows_refl Z) ?_
      repeat (first | (with_reducible refine wpQuiet_load rfl 25 _ rfl _ rfl _ LA.out ?_; simp only [Act.put, sT, sS, sZ]) | (with_reducible refine wpQuiet_load rfl 25 _ rfl _ rfl _ LD.out ?_; simp only [Act.put, sT, sS, sZ]) | (go_big_quiet_step (with_reducible exact KLL.out _)))
      refine wpQuiet_nil ?_
      rintro _ ⟨z2, rfl⟩
      have QY := hid (QZ.out.trans (z2.below.mono QZ.out.size))
      have RY := hid (RZ.out.later z2.below)
      have AYY := hid (AZ.out.later z2.below)
      clear LA LD
      obtain ⟨Y, hY⟩ : ∃ Y, Y = z2.w := ⟨_, rfl⟩
      rw [← hY] at QY RY AYY ⊢
      clear hY RZ AZ
      have LL1 := AYY.out.load
      have CO1 := hid (refOwn_any8 Y y _ AYY.out.slots HYL.out)
      go_wp2_with (refine wpList_load_known rfl _ (.tmp 53) rfl _ rfl _ LL1 ?_)
      refine CO1.out.mono ?_
      rintro _ p1 ⟨so1, rfl, hro1, qo1⟩
      obtain ⟨oa1, oc1, rfl⟩ := hro1.shape
      have QP1 := hid (QY.out.trans (qo1.mono QY.out.size))
      obtain ⟨v1, y1, happ1, hout1, hbel1⟩ := (RY.out.later qo1).push QP1.out.size (by have := HLN.out; omega) y (.slice oa1 y.slots.length oc1) rfl HYO.out (hro1.lower QY.out.size) HYW.out
      have HO1 := hid hout1
      have QE1 := hid (show Below V.heap.size V y1 from QP1.out.trans hbel1)
      clear LL1 CO1 hro1 hout1 hbel1
      go_wp2_with (first | (refine wpList_build_ac rfl (.tmp 55) rfl _ _ rfl ?_) | (at_builtin; refine wpList_append_run rfl (.tmp 50) (.tmp 56) 22 rfl _ _ _ rfl rfl happ1 ?_))
      go_roundw
      case rel => exact ⟨k + 1, by have := HX.out.2; omega, by simp, by rw [HTK.out, HOL.out.2.1]; have hd := HD.out; rw [HOL.out.2.2] at hd; rw [hd], by rw [HTK.out, HOL.out.1]; exact HO1.out, QE1.out⟩
      case measure => have := HX.out.2; simp [intOf]; omega
     | true =>
      have LA := hid (show ∀ z : World, Grows Z z → (loadVar 25 (b.add (k * 27))).run Tryz.prog z = .ok (.agg cy) z from fun z hz => by obtain ⟨q, rfl⟩ := hz; exact LY.out _ (QZ.out.trans (q.below.mono QZ.out.size)))
      have LD := hid (show ∀ z : World, Grows Z z → (loadVar 25 ⟨W.heap.size, 0, none⟩).run Tryz.prog z = .ok (.agg cd) z from fun z hz => by obtain ⟨q, rfl⟩ := hz; exact LXD.out _ (QZ.out.trans (q.below.mono QZ.out.size)))
      go_wp2_with fail
      refine wp_region_quietL (C := Grows Z) hmx (by kernel_rfl) (grows_refl Z) ?_
      repeat (first | (with_reducible refine wpQuiet_load rfl 25 _ rfl _ rfl _ LA.out ?_; simp only [Act.put, sT, sS, sZ]) | (with_reducible refine wpQuiet_load rfl 25 _ rfl _ rfl _ LD.out ?_; simp only [Act.put, sT, sS, sZ]) | (go_big_quiet_step (fail)))
      refine wpQuiet_nil ?_
      rintro _ ⟨z2, rfl⟩
      have QY := hid (QZ.out.trans (z2.below.mono QZ.out.size))
      have RY := hid (RZ.out.later z2.below)
      have AYY := hid (AZ.out.later z2.below)
      clear LA LD
      obtain ⟨Y, hY⟩ : ∃ Y, Y = z2.w := ⟨_, rfl⟩
      rw [← hY] at QY RY AYY ⊢
      clear hY RZ AZ
      have LL1 := AYY.out.load
      have CO1 := hid (refOwn_any8 Y y _ AYY.out.slots HYL.out)
      go_wp2_with (refine wpList_load_known rfl _ (.tmp 53) rfl _ rfl _ LL1 ?_)
      refine CO1.out.mono ?_
      rintro _ p1 ⟨so1, rfl, hro1, qo1⟩
      obtain ⟨oa1, oc1, rfl⟩ := hro1.shape
      have QP1 := hid (QY.out.trans (qo1.mono QY.out.size))
      obtain ⟨v1, y1, happ1, hout1, hbel1⟩ := (RY.out.later qo1).push QP1.out.size (by have := HLN.out; omega) y (.slice oa1 y.slots.length oc1) rfl HYO.out (hro1.lower QY.out.size) HYW.out
      have HO1 := hid hout1
      have QE1 := hid (show Below V.heap.size V y1 from QP1.out.trans hbel1)
      clear LL1 CO1 hro1 hout1 hbel1
      go_wp2_with (first | (refine wpList_build_ac rfl (.tmp 55) rfl _ _ rfl ?_) | (at_builtin; refine wpList_append_run rfl (.tmp 50) (.tmp 56) 22 rfl _ _ _ rfl rfl happ1 ?_))
      go_roundw
      case rel => exact ⟨k + 1, by have := HX.out.2; omega, by simp, by rw [HTK.out, HOL.out.2.1]; have hd := HD.out; rw [HOL.out.2.2] at hd; rw [hd], by rw [HTK.out, HOL.out.1]; exact HO1.out, QE1.out⟩
      case measure => have := HX.out.2; simp [intOf]; omega
    ·have HGT := hid (show x.at_ < y.at_ by omega)
     rw [decide_eq_true (show x.at_ < y.at_ by omega)] at KL
     clear he hlt
     cases d with
     | false =>
      have HOG := hid (show outM (l.take k ++ [y]) x = (outM (l.take k) x ++ [x]) ++ [y] from by
       have hd := HD.out
       rw [Bool.or_eq_false_iff] at hd
       rw [(out_gt HGT.out).2.2 hd.2]
       unfold xS
       rw [if_neg (by rw [HEB.out, hd.1]; decide)])
      have LA := hid (show ∀ z : World, Grows Z z → (loadVar 25 (b.add (k * 27))).run Tryz.prog z = .ok (.agg cy) z from fun z hz => by obtain ⟨q, rfl⟩ := hz; exact LY.out _ (QZ.out.trans (q.below.mono QZ.out.size)))
      have LD := hid (show ∀ z : World, Grows Z z → (loadVar 25 ⟨W.heap.size, 0, none⟩).run Tryz.prog z = .ok (.agg cd) z from fun z hz => by obtain ⟨q, rfl⟩ := hz; exact LXD.out _ (QZ.out.trans (q.below.mono QZ.out.size)))
      have KLL := hid (fun z : Ext Z => Ext.at (KL.out z.w))
      go_wp2_with fail
      refine wp_region_quietL (C := Grows Z) hmx (by kernel_rfl) (grows_refl Z) ?_
      repeat (first | (with_reducible refine wpQuiet_load rfl 25 _ rfl _ rfl _ LA.out ?_; simp only [Act.put, sT, sS, sZ]) | (with_reducible refine wpQuiet_load rfl 25 _ rfl _ rfl _ LD.out ?_; simp only [Act.put, sT, sS, sZ]) | (go_big_quiet_step (with_reducible exact KLL.out _)))
      refine wpQuiet_nil ?_
      rintro _ ⟨z2, rfl⟩
      have QY := hid (QZ.out.trans (z2.below.mono QZ.out.size))
      have RY := hid (RZ.out.later z2.below)
      have AYY := hid (AZ.out.later z2.below)
      clear LA LD
      obtain ⟨Y, hY⟩ : ∃ Y, Y = z2.w := ⟨_, rfl⟩
      rw [← hY] at QY RY AYY ⊢
      clear hY RZ AZ
      have LL1 := LX.out Y QY.out
      have CO1 := hid (KO.out Y QY.out)
      go_wp2_with (refine wpList_load_known rfl _ (.tmp 3) rfl _ rfl _ LL1 ?_)
      refine CO1.out.mono ?_
      rintro _ p1 ⟨so1, rfl, hro1, qo1⟩
      obtain ⟨oa1, oc1, rfl⟩ := hro1.shape
      have QP1 := hid (QY.out.trans (qo1.mono QY.out.size))
      obtain ⟨v1, y1, happ1, hout1, hbel1⟩ := (RY.out.later qo1).push QP1.out.size (by have := HLN.out; omega) x (.slice oa1 x.slots.length oc1) rfl HXO.out (hro1.lower QY.out.size) HXW.out
      have HO1 := hid hout1
      have QE1 := hid (show Below V.heap.size V y1 from QP1.out.trans hbel1)
      clear LL1 CO1 hro1 hout1 hbel1
      obtain ⟨sy2, ay2⟩ := (HS.out.later QE1.out).in HX.out.1
      have AY1 := hid ay2
      clear ay2
      have LL2 := AY1.out.load
      have CO2 := hid (refOwn_any8 y1 y _ AY1.out.slots HYL.out)
      go_wp2_with (first | (refine wpList_load_known rfl _ (.tmp 53) rfl _ rfl _ LL2 ?_) | (refine wpList_build_ac rfl (.tmp 47) rfl _ _ rfl ?_) | (at_builtin; refine wpList_append_run rfl (.tmp 45) (.tmp 48) 22 rfl _ _ _ rfl rfl happ1 ?_))
      refine CO2.out.mono ?_
      rintro _ p2 ⟨so2, rfl, hro2, qo2⟩
      obtain ⟨oa2, oc2, rfl⟩ := hro2.shape
      have QP2 := hid (QE1.out.trans (qo2.mono QE1.out.size))
      obtain ⟨v2, y2, happ2, hout2, hbel2⟩ := (HO1.out.later qo2).push QP2.out.size (by have := HLN.out; rw [List.length_append, List.length_singleton]; omega) y (.slice oa2 y.slots.length oc2) rfl HYO.out (hro2.lower QE1.out.size) HYW.out
      have HO2 := hid hout2
      have QE2 := hid (show Below V.heap.size V y2 from QP2.out.trans hbel2)
      clear LL2 CO2 hro2 hout2 hbel2
      go_wp2_with (first | (refine wpList_build_ac rfl (.tmp 55) rfl _ _ rfl ?_) | (at_builtin; refine wpList_append_run rfl (.tmp 50) (.tmp 56) 22 rfl _ _ _ rfl rfl happ2 ?_))
      go_roundw
      case rel => exact ⟨k + 1, by have := HX.out.2; omega, by simp, by rw [HTK.out, (out_gt HGT.out).1, Bool.or_true], by rw [HTK.out, HOG.out]; exact HO2.out, QE2.out⟩
      case measure => have := HX.out.2; simp [intOf]; omega
     | true =>
      have HOG := hid (show outM (l.take k ++ [y]) x = outM (l.take k) x ++ [y] from by
       have hd := HD.out
       rw [Bool.or_eq_true] at hd
       rcases hg : gtB (l.take k) x.at_ with _ | _
       ·rw [(out_gt HGT.out).2.2 hg]
        unfold xS
        rw [if_pos (by rw [HEB.out]; rcases hd with h | h; exact h; rw [hg] at h; cases h), List.append_nil]
       ·exact (out_gt HGT.out).2.1 hg)
      have LA := hid (show ∀ z : World, Grows Z z → (loadVar 25 (b.add (k * 27))).run Tryz.prog z = .ok (.agg cy) z from fun z hz => by obtain ⟨q, rfl⟩ := hz; exact LY.out _ (QZ.out.trans (q.below.mono QZ.out.size)))
      have LD := hid (show ∀ z : World, Grows Z z → (loadVar 25 ⟨W.heap.size, 0, none⟩).run Tryz.prog z = .ok (.agg cd) z from fun z hz => by obtain ⟨q, rfl⟩ := hz; exact LXD.out _ (QZ.out.trans (q.below.mono QZ.out.size)))
      go_wp2_with fail
      refine wp_region_quietL (C := Grows Z) hmx (by kernel_rfl) (grows_refl Z) ?_
      repeat (first | (with_reducible refine wpQuiet_load rfl 25 _ rfl _ rfl _ LA.out ?_; simp only [Act.put, sT, sS, sZ]) | (with_reducible refine wpQuiet_load rfl 25 _ rfl _ rfl _ LD.out ?_; simp only [Act.put, sT, sS, sZ]) | (go_big_quiet_step (fail)))
      refine wpQuiet_nil ?_
      rintro _ ⟨z2, rfl⟩
      have QY := hid (QZ.out.trans (z2.below.mono QZ.out.size))
      have RY := hid (RZ.out.later z2.below)
      have AYY := hid (AZ.out.later z2.below)
      clear LA LD
      obtain ⟨Y, hY⟩ : ∃ Y, Y = z2.w := ⟨_, rfl⟩
      rw [← hY] at QY RY AYY ⊢
      clear hY RZ AZ
      have LL1 := AYY.out.load
      have CO1 := hid (refOwn_any8 Y y _ AYY.out.slots HYL.out)
      go_wp2_with (refine wpList_load_known rfl _ (.tmp 53) rfl _ rfl _ LL1 ?_)
      refine CO1.out.mono ?_
      rintro _ p1 ⟨so1, rfl, hro1, qo1⟩
      obtain ⟨oa1, oc1, rfl⟩ := hro1.shape
      have QP1 := hid (QY.out.trans (qo1.mono QY.out.size))
      obtain ⟨v1, y1, happ1, hout1, hbel1⟩ := (RY.out.later qo1).push QP1.out.size (by have := HLN.out; omega) y (.slice oa1 y.slots.length oc1) rfl HYO.out (hro1.lower QY.out.size) HYW.out
      have HO1 := hid hout1
      have QE1 := hid (show Below V.heap.size V y1 from QP1.out.trans hbel1)
      clear LL1 CO1 hro1 hout1 hbel1
      go_wp2_with (first | (refine wpList_build_ac rfl (.tmp 55) rfl _ _ rfl ?_) | (at_builtin; refine wpList_append_run rfl (.tmp 50) (.tmp 56) 22 rfl _ _ _ rfl rfl happ1 ?_))
      go_roundw
      case rel => exact ⟨k + 1, by have := HX.out.2; omega, by simp, by rw [HTK.out, (out_gt HGT.out).1, Bool.or_true], by rw [HTK.out, HOG.out]; exact HO1.out, QE1.out⟩
      case measure => have := HX.out.2; simp [intOf]; omega
  ·obtain rfl : k = n := by omega
   have hkk : ¬ (k : Int) < (k : Int) := by omega
   have htl : l.take k = l := by rw [← HN.out, List.take_length]
   rw [htl] at HROW ⊢
   clear htl hk hkn
   obtain ⟨d, hd⟩ : ∃ d, (eb || gtB l x.at_) = d := ⟨_, rfl⟩
   rw [hd]
   have HD := hid hd
   clear hd
   obtain ⟨P, hP⟩ : ∃ P, putA l x = P := ⟨_, rfl⟩
   rw [hP] at HP
   have HPP := hid hP
   have HLN := hid (show (outM l x).length ≤ 99990 by
    have h1 := out_len l x
    have := HLL.out
    have := HN.out
    omega)
   cases d with
   | false =>
    have HPE := hid (show P = outM l x ++ [x] from by
     have hd := HD.out
     rw [Bool.or_eq_false_iff] at hd
     rw [← hP, (out_end l x).2 hd.2]
     unfold xS
     rw [if_neg (by rw [HEB.out, hd.1]; decide)])
    clear hP
    have LL1 := LX.out wr HQ.out
    have CO1 := hid (KO.out wr HQ.out)
    go_wp2_with (refine wpList_load_known rfl _ (.tmp 3) rfl _ rfl _ LL1 ?_)
    refine CO1.out.mono ?_
    rintro _ p1 ⟨so1, rfl, hro1, qo1⟩
    obtain ⟨oa1, oc1, rfl⟩ := hro1.shape
    have QP1 := hid (HQ.out.trans (qo1.mono HQ.out.size))
    obtain ⟨v1, y1, happ1, hout1, hbel1⟩ := (HROW.out.later qo1).push QP1.out.size (by have := HLN.out; omega) x (.slice oa1 x.slots.length oc1) rfl HXO.out (hro1.lower HQ.out.size) HXW.out
    have HO1 := hid hout1
    have QE1 := hid (show Below V.heap.size V y1 from QP1.out.trans hbel1)
    rw [← HPE.out] at HO1
    obtain ⟨fa, fc, hfs⟩ := HO1.out.shape
    subst hfs
    have hpl : (P.length : Int) ≤ 200 := by have := HP.out; omega
    have HF1 := hid (show StK y1 (.slice fa P.length fc) P from ⟨_, HO1.out⟩)
    clear HO1
    obtain ⟨N, hNN⟩ : ∃ N, P.length = N := ⟨_, rfl⟩
    rw [hNN] at happ1 hpl HF1
    clear hNN
    clear LL1 CO1 hro1 hout1 hbel1
    go_wp2_with (first | (refine wpList_build_ac rfl (.tmp 62) rfl _ _ rfl ?_) | (at_builtin; refine wpList_append_run rfl (.tmp 60) (.tmp 63) 22 rfl _ _ _ rfl rfl happ1 ?_))
    go_ret2
    exact ⟨_, rfl, by rw [HPP.out]; exact HF1.out, Q0.out.trans (QE1.out.mono Q0.out.size)⟩
   | true =>
    have HPE := hid (show P = outM l x from by
     have hd := HD.out
     rw [Bool.or_eq_true] at hd
     rcases hg : gtB l x.at_ with _ | _
     ·rw [← hP, (out_end l x).2 hg]
      unfold xS
      rw [if_pos (by rw [HEB.out]; rcases hd with h | h; exact h; rw [hg] at h; cases h), List.append_nil]
     ·rw [← hP]
      exact (out_end l x).1 hg)
    clear hP
    rw [← HPE.out] at HROW
    obtain ⟨fa, fc, hfs⟩ := HROW.out.shape
    subst hfs
    have hpl : (P.length : Int) ≤ 200 := by have := HP.out; omega
    have HF1 := hid (show StK wr (.slice fa P.length fc) P from ⟨_, HROW.out⟩)
    clear HROW
    obtain ⟨N, hNN⟩ : ∃ N, P.length = N := ⟨_, rfl⟩
    rw [hNN] at hpl HF1 ⊢
    clear hNN
    go_wp2_with fail
    go_ret2
    exact ⟨_, rfl, by rw [HPP.out]; exact HF1.out, Q0.out.trans (HQ.out.mono Q0.out.size)⟩
end Go.Proofs.YtkicmbdjihjgfaaGreatDoor
