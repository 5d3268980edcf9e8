/- Package state: list and Digest of no accounts. Condition of Digest: the table of the rounds' numbers lies in memory. -/
import Derived.Test.YtkicmbdjihjgfaaGreatDoorG16
import Derived.Test.YtkicmbdjihjgfaaGreatDoorG24
import Derived.Test.YtkicmbdjihjgfaaGreatDoorG25
import Derived.Test.YtkicmbdjihjgfaaGreatDoorG27
set_option maxRecDepth 100000
set_option maxHeartbeats 16000000
open List (setIfInBounds_toArray set_cons_succ set_cons_zero)
namespace Go.Proofs.YtkicmbdjihjgfaaGreatDoor
open Go Go.RowKit
attribute [local go_sem] Oper.semAt_some Grows wide_fn
theorem items_any (W : World) (a : Option Addr) (n cap : Nat) (g : FuncId) :
  Calls Tryz.prog 69 #[.slice a n cap, .func (.func g) #[] #[]] W fun e w' => e = .returned (.func (.func 99) #[] #[.pointer (some ⟨W.heap.size, 0, none⟩), .pointer (some ⟨W.heap.size + 1, 0, none⟩)]) ∧ w' = (W.alloc (.cells #[.slice a n cap] 22)).alloc (.cells #[.func (.func g) #[] #[]] 80) := by
 go_enter Tryz.func69, Tryz.ntmps69
 go_wp2_with fail
 go_ret
 exact ⟨rfl, rfl⟩
theorem seq_none (W : World) (b1 b2 : Nat) (y : Value) (c : Nat) (h : Has W b1 22 #[.slice none 0 c]) :
  Calls Tryz.prog 99 #[y, .pointer (some ⟨b1, 0, none⟩), .pointer (some ⟨b2, 0, none⟩)] W fun e w' => (∃ v, e = .returned v) ∧ w' = W := by
 have c0 := h.cell 0 _ rfl
 clear h
 go_enter Tryz.func99, Tryz.ntmps99
 go_wp2_with fail
 go_loopw [8] (fun i wr => i = .int .i64 0 ∧ wr = W) (fun i _ => (intOf i).toNat)
 case atStart => exact ⟨rfl, rfl⟩
 case round =>
  obtain ⟨rfl, hw⟩ := hrel
  obtain rfl : W = wr := hw.symm
  clear hw
  go_wp2_with fail
  exact ⟨rfl, .tuple #[], by simp [results, Tryz.results99], ⟨_, rfl⟩, rfl⟩
theorem nil_seq (W W0 : World) (b1 b2 n : Nat) (enc : Nat → Array Value) (Kp : World → World → Prop) (hb : ∀ X, Below W0.heap.size W0 X → Has X b1 22 #[.slice none 0 0]) : SeqN Fence.wide n Tryz.prog 99 #[.pointer (some ⟨b1, 0, none⟩), .pointer (some ⟨b2, 0, none⟩)] enc Kp 0 W0 := by
 intro l J Jx X hX _ _ _ hJ
 refine (callsIn_free free_wide (seq_none X b1 b2 (.func (.yield l) #[] #[]) 0 (hb X hX))).mono ?_
 rintro e w' ⟨h1, rfl⟩
 exact ⟨h1, .inl hJ⟩
def ListSt (w : World) (Br Bk : Nat) (_ : Nat) (W : World) : Prop := (Has W Br 78 #[.bool false, .string ⟨#[]⟩, .slice none 0 0] ∧ Has W Bk 76 #[.slice none 0 0]) ∧ Below w.heap.size w W
theorem ListSt.own {w : World} {Br Bk n : Nat} (hn : w.heap.size ≤ n) : OwnFrom n (fun k W => ListSt w Br Bk k W) := fun k A X row hs hg hr =>
 ⟨⟨hs.1.1.own' hg (fun r e => (hr r e).2), hs.1.2.own' hg (fun r e => (hr r e).2)⟩, below_own hs.2 hg hn (fun r e => (hr r e).1)⟩
theorem list_nil (w : World) :
  Calls Tryz.prog 46 #[.slice none 0 0, .func (.func 47) #[] #[]] w (ListP [] w) := by
 have hmx : Tryz.prog.follows .mixedOrders = true := by kernel_rfl
 refine (callsIn_wide (n := 8)).1 ?_
 refine callsIn_of_wp_marks Tryz.func46 rfl trivial ?_ rfl
 simp only [Tryz.ntmps46, List.size_toArray, List.length_cons, List.length_nil, Nat.reduceAdd, Nat.reduceSub, Array.replicate_succ, Array.replicate_zero, List.push_toArray, List.append_toArray, List.nil_append, List.cons_append]
 obtain ⟨W1, hW1, h10, q1⟩ := newBox w 78 #[.bool false, .string ⟨#[]⟩, .slice none 0 0]
 obtain ⟨W2, hW2, h21, q2⟩ := newBox W1 76 #[.slice none 0 0]
 have h20 := h10.later q2
 have Q2 := hid (q1.trans (q2.mono q1.size))
 have H20 := hid h20
 have H21 := hid h21
 have HLT := hid (show w.heap.size < W1.heap.size from h10.lt)
 clear h10 q1 h21 q2 h20
 gi_wp2_with fail
 refine (callsIn_free free_wide (items_any W2 none 0 0 47)).mono ?_
 rintro _ w3 ⟨rfl, hw3⟩
 have q3 : Below W2.heap.size W2 w3 := by rw [hw3]; exact ((Below.refl W2.heap.size W2).alloc (Nat.le_refl _) _).alloc (by simp) _
 have h30 : Has w3 W2.heap.size 22 #[.slice none 0 0] := by rw [hw3]; exact (Has.new W2 22 #[.slice none 0 0]).alloc _
 have Q3 := hid (Q2.out.trans (q3.mono Q2.out.size))
 have H30 := hid (H20.out.later q3)
 have H31 := hid (H21.out.later q3)
 have HS := hid h30
 clear q3 h30 hw3 hW1 hW2
 gi_wp2_with fail
 refine wpIn_rangeFunc_N rfl (by omega) (gf := 99) (lb := #[.pointer (some ⟨W2.heap.size, 0, none⟩), .pointer (some ⟨W2.heap.size + 1, 0, none⟩)]) rfl trivial (enters_of Tryz.func99 (by kernel_rfl) rfl)
  (nil_seq w3 w3 W2.heap.size (W2.heap.size + 1) _ (fun _ => #[]) (fun _ _ => True) (fun X hX => HS.out.later hX)) (fun _ _ => trivial) (fun _ _ _ _ _ _ _ _ => trivial) (fun k hk => absurd hk (by omega))
  (fun k W => ListSt w w.heap.size W1.heap.size k W) (fun _ _ _ => False) (ListSt.own Q3.out.size) (fun c k A X row hs hg hr => hs) ⟨⟨H30.out, H31.out⟩, Q3.out⟩
  (fun _ _ _ => False) (fun k a' _ X Y row hs hg hr => hs) ?assign ?body ?done ?stop
 case assign => intro l k W K hk; exact absurd hk (by omega)
 case body => intro l k a' W _ _ hk; exact absurd hk (by omega)
 case stop => rintro D c k W hD hk; exact absurd hk (by omega)
 case done =>
  rintro D W hD hst hK
  have k0 := hst.1.2.cell 0 _ rfl
  have hL0 := list_any [] none 0 W (.inl rfl) (by simp)
  have HL := hid hL0
  have HR := hid hst.1.1
  have QD := hid hst.2
  have HK := hid hK
  have HD := hid (Nat.le_trans Q3.out.size hD)
  clear hst hK hL0
  gi_wp2_with fail
  refine (callsIn_free free_wide HL.out).mono ?_
  rintro _ w5 ⟨a5, c5, rfl, hI, q5⟩
  have h6 := HR.out.later q5
  have c60 := h6.cell 0 _ rfl
  have c61 := h6.cell 1 _ rfl
  have c62 := h6.cell 2 _ rfl
  have f60 := h6.frozen 0
  have f61 := h6.frozen 1
  have f62 := h6.frozen 2
  have h7 := ((h6.set 0 (.bool true)).set 1 (.string ⟨#[]⟩)).set 2 (.slice a5 0 c5)
  have hO := (((OnlyB.refl w5 w.heap.size).setCell 0 (.bool true)).setCell 1 (.string ⟨#[]⟩)).setCell 2 (.slice a5 0 c5)
  obtain ⟨w7, hw7⟩ : ∃ w7, ((w5.setCell ⟨w.heap.size, 0, none⟩ (.bool true)).setCell ⟨w.heap.size, 1, none⟩ (.string ⟨#[]⟩)).setCell ⟨w.heap.size, 2, none⟩ (.slice a5 0 c5) = w7 := ⟨_, rfl⟩
  rw [hw7] at h7 hO
  have hDne : D ≠ w.heap.size := by have := HD.out; have := HLT.out; have := H30.out.lt; omega
  have hK7 := hid ((hO.2.2 D hDne).trans ((q5.block D (by
   have := HK.out
   exact (Array.getElem?_eq_some_iff.1 this).1)).trans HK.out))
  have H7 := hid h7
  have Q7 := hid ((QD.out.trans (q5.mono QD.out.size)).trans (hO.1.mono (Nat.le_refl _)))
  have HDN := hid hDne
  have QF := hid (show Below w.heap.size w (w7.putObj D (.deferred none)) from Q7.out.trans ⟨rfl, rfl, rfl, by simp, fun k hk => World.putObj_heap_other (by have := HD.out; have := HLT.out; have := H30.out.lt; omega)⟩)
  have HF := hid (show Has (w7.putObj D (.deferred none)) w.heap.size 78 #[.bool true, .string ⟨#[]⟩, .slice a5 0 c5] from (World.putObj_heap_other (fun e => HDN.out e.symm)).trans H7.out)
  clear h6 h7 hO hDne hI q5 HL
  simp only [List.length_nil]
  gi_wp2_with fail
  try rw [hw7]
  refine ⟨by simp, .inl ⟨_, _, rfl, run_takeDeferred hK7.out, ?_⟩⟩
  have y0 := HF.out.cell 0 _ rfl
  have y1 := HF.out.cell 1 _ rfl
  have y2 := HF.out.cell 2 _ rfl
  exact ⟨.agg #[.bool true, .string ⟨#[]⟩, .slice a5 0 c5], by simp [results, Tryz.results46, go_sem, y0, y1, y2], a5, c5, rfl, ItemS.mk' (t := .mk true ⟨#[]⟩ []) (Nat.zero_le _) (show 0 ≤ 140737488355328 by omega) (.inl rfl), QF.out⟩
def c0B : ByteArray := ⟨#[192]⟩
theorem enc_nil : encE (.mk true ⟨#[]⟩ []) = 0 ∧ encS (.mk true ⟨#[]⟩ []) = [192] := by
 have h1 : okI (.mk true ⟨#[]⟩ []) = true := by
  unfold okI
  rw [(rightB_iff 16 _).2 ⟨fun _ => rfl, fun h => by simp [It.list] at h, fun k hk => by simp [It.kids] at hk⟩]
  decide +kernel
 have h2 : encI (.mk true ⟨#[]⟩ []) = [192] := by decide +kernel
 have h3 : encE (.mk true ⟨#[]⟩ []) = 0 := encE_good h1 (by rw [h2]; decide)
 exact ⟨h3, by rw [encS_good h3, h2]⟩
theorem digest_nil (W : World) (hT : Tab W) :
  Calls Tryz.prog 25 #[.slice none 0 0] W fun e w' => e = .returned (.tuple #[.string (sumS c0B), .int .i64 0]) ∧ Below W.heap.size W w' := by
 have HT := hid hT
 have HR := hid (right_st W (.slice none 0 0) [] (StAt.nil W))
 have hr : rightS [] = true := by unfold rightS upsB; simp [Ups]
 rw [hr] at HR
 clear hT hr
 go_enter Tryz.func25, Tryz.ntmps25
 go_wp2_with fail
 refine HR.out.mono ?_
 rintro _ w1 ⟨rfl, q1⟩
 have Q1 := hid q1
 have HL := hid (list_nil w1)
 clear q1 HR
 go_wp2_with fail
 refine HL.out.mono ?_
 rintro _ w2 ⟨a, cap, rfl, hI, q2⟩
 have Q2 := hid (Q1.out.trans (q2.mono Q1.out.size))
 have HE := hid (encode_any (.mk true ⟨#[]⟩ []) (by decide +kernel) (by decide +kernel) _ w2 hI.at)
 rw [enc_nil.1, enc_nil.2] at HE
 clear hI q2 HL
 go_wp2_with fail
 refine HE.out.mono ?_
 rintro _ w3 ⟨rfl, q3⟩
 have Q3 := hid (Q2.out.trans (q3.mono Q2.out.size))
 have HS := hid (sum_ret c0B (by decide) w3 (HT.out.later Q3.out))
 clear q3 HE
 go_wp2_with fail
 refine HS.out.mono ?_
 rintro _ w4 ⟨rfl, q4⟩
 have Q4 := hid (Q3.out.trans (q4.mono Q3.out.size))
 clear q4 HS
 go_wp2_with fail
 go_ret2
 exact ⟨rfl, Q4.out⟩
theorem c0_0 : blkN (padS c0B) 1 0 = 0x7a5dc7dee84dcc1d := by
 rw [one_block c0B 0 (by omega)]
 exact Nat.eq_of_beq_eq_true (by decide +kernel)
theorem c0_head : (sumS c0B).extract 0 6 = ⟨#[29, 204, 77, 232, 222, 199]⟩ := by
 unfold sumS
 rw [sqS_head, show c0B.size / 136 + 1 = 1 from rfl, c0_0]
 decide
end Go.Proofs.YtkicmbdjihjgfaaGreatDoor
namespace Go.Proofs.YtkicmbdjihjgfaaGreatDoor
open Go Go.RowKit
def atV : Nat := 5 * 256 ^ 19
def ac1 : Ac := ⟨atV, 5, 0, ⟨#[]⟩, []⟩
def ac3 : Ac := ⟨atV, 5, 0, ⟨#[]⟩, [(1, 2)]⟩
def ch1 : Ch := ⟨1, atV, 0, 5, 0, ⟨#[]⟩⟩
def un1 : Ch := ⟨1, atV, 0, 0, 0, ⟨#[]⟩⟩
def ch3 : Ch := ⟨4, atV, 1, 2, 0, ⟨#[]⟩⟩
def ch4 : Ch := ⟨5, 0, 0, 0, 0, ⟨#[]⟩⟩
theorem rightB_none : rightB' [] = true := (rightB_iff' []).2 ⟨by simp, by unfold Rise; simp, by simp⟩
theorem rightB_one {x : Sl} (h : x.2 ≠ 0) : rightB' [x] = true := (rightB_iff' [x]).2 ⟨by simp, by unfold Rise; simp, by simp [h]⟩
theorem rightS_nil : rightS [] = true := by unfold rightS upsB; simp [Ups]
theorem rightS_one {x : Ac} (h : strayB x = false) : rightS [x] = true := by unfold rightS upsB; simp [Ups, h]
theorem findA_one (x : Ac) : findA [x] x.at_ = x := by simp [findA]
theorem findA_nil (t : Nat) : findA [] t = ⟨t, 0, 0, ⟨#[]⟩, []⟩ := rfl
theorem putA_nil (x : Ac) : putA [] x = if emptyB x = true then [] else [x] := by simp [putA]
theorem putA_one {x y : Ac} (h : x.at_ = y.at_) : putA [x] y = if emptyB y = true then [] else [y] := by simp [putA, h]
theorem atV_lt : atV < 256 ^ 20 := by unfold atV; decide
theorem ch1_ok : ChOk ch1 := ⟨by unfold I64 ch1; decide, atV_lt, by unfold W256 ch1; decide, by unfold W256 ch1; decide, by unfold I64 ch1; decide, by decide⟩
theorem un1_ok : ChOk un1 := ⟨by unfold I64 un1; decide, atV_lt, by unfold W256 un1; decide, by unfold W256 un1; decide, by unfold I64 un1; decide, by decide⟩
theorem ch3_ok : ChOk ch3 := ⟨by unfold I64 ch3; decide, atV_lt, by unfold W256 ch3; decide, by unfold W256 ch3; decide, by unfold I64 ch3; decide, by decide⟩
theorem ch4_ok : ChOk ch4 := ⟨by unfold I64 ch4; decide, by unfold ch4; decide, by unfold W256 ch4; decide, by unfold W256 ch4; decide, by unfold I64 ch4; decide, by decide⟩
theorem may_ac (n b : Nat) (z : Int) (l : List Sl) (h : rightB' l = true) (h1 : 0 ≤ z) (h2 : z ≤ 9007199254740992) : mayB ⟨n, b, z, ⟨#[]⟩, l⟩ = true := by
 have : (⟨#[]⟩ : ByteArray).size ≤ 24576 := by decide
 unfold mayB
 simp only [h, decide_eq_true h1, decide_eq_true h2, decide_eq_true this, Bool.and_self]
theorem empty_bal (n b : Nat) (z : Int) (c : ByteArray) (l : List Sl) (h : b ≠ 0) : emptyB ⟨n, b, z, c, l⟩ = false := by unfold emptyB; simp [h]
theorem empty_zero (n : Nat) : emptyB ⟨n, 0, 0, ⟨#[]⟩, []⟩ = true := by unfold emptyB; rfl
theorem stray1 : strayB ac1 = false := by unfold strayB ac1; rw [empty_bal _ _ _ _ _ (by decide), may_ac _ _ _ _ rightB_none (by decide) (by decide)]; rfl
theorem stray3 : strayB ac3 = false := by unfold strayB ac3; rw [empty_bal _ _ _ _ _ (by decide), may_ac _ _ _ _ (rightB_one (by decide)) (by decide) (by decide)]; rfl
theorem do_good {l : List Ac} {c : Ch} {x : Ac} {u : Ch} (h1 : rightS l = true) (h2 : chgE (findA l c.at_) c = 0) (h3 : chgX (findA l c.at_) c = x) (h4 : mayB x = true) (h5 : (putA l x).length ≤ 200) (h6 : chgU (findA l c.at_) c = u) : doE l c = 0 ∧ doL l c = putA l x ∧ doU l c = u := by
 have h : doE l c = 0 := by
  unfold doE
  rw [if_neg (by rw [h1]; decide), h2, h3, if_neg (by decide), if_neg (by rw [h4]; decide), if_pos h5]
 refine ⟨h, ?_, ?_⟩
 ·unfold doL; rw [if_pos h, h3]
 ·unfold doU; rw [if_pos h, h6]
theorem do_1 : doE [] ch1 = 0 ∧ doL [] ch1 = [ac1] ∧ doU [] ch1 = un1 := by
 have := do_good (l := []) (c := ch1) (x := ac1) (u := un1) rightS_nil (by unfold chgE; rfl) (by rw [findA_nil]; unfold chgX; rfl) (by unfold ac1; exact may_ac _ _ _ _ rightB_none (by decide) (by decide)) (by rw [putA_nil]; split <;> simp) (by rw [findA_nil]; unfold chgU; rfl)
 rwa [putA_nil, show emptyB ac1 = false from empty_bal _ _ _ _ _ (by decide), if_neg (by decide)] at this
theorem do_2 : doE [ac1] un1 = 0 ∧ doL [ac1] un1 = [] := by
 have hf : findA [ac1] un1.at_ = ac1 := findA_one ac1
 have hp : putA [ac1] ⟨atV, 0, 0, ⟨#[]⟩, []⟩ = if emptyB ⟨atV, 0, 0, ⟨#[]⟩, []⟩ = true then [] else [⟨atV, 0, 0, ⟨#[]⟩, []⟩] := putA_one rfl
 have := do_good (l := [ac1]) (c := un1) (x := ⟨atV, 0, 0, ⟨#[]⟩, []⟩) (u := ch1) (rightS_one stray1) (by unfold chgE; rfl) (by rw [hf]; unfold chgX; rfl) (may_ac _ _ _ _ rightB_none (by decide) (by decide)) (by rw [hp]; split <;> simp) (by rw [hf]; unfold chgU; rfl)
 rw [hp, if_pos (empty_zero _)] at this
 exact ⟨this.1, this.2.1⟩
theorem merge_12 : mergeL [] [(1, 2)] = [(1, 2)] := by simp [mergeL, bothL, listF, behindF]
theorem do_3 : doE [ac1] ch3 = 0 ∧ doL [ac1] ch3 = [ac3] := by
 have hf : findA [ac1] ch3.at_ = ac1 := findA_one ac1
 have hp : putA [ac1] ac3 = if emptyB ac3 = true then [] else [ac3] := putA_one rfl
 have h1 : rightB' ac1.slots = true := rightB_none
 have h2 : mergeL ac1.slots [(ch3.key, ch3.val)] = [(1, 2)] := merge_12
 have h3 : chgE ac1 ch3 = 0 := by
  unfold chgE
  rw [if_neg (by decide), if_neg (by decide), if_neg (by decide), if_pos (by decide), if_pos h1, h2, if_pos (by simp)]
 have h4 : chgX ac1 ch3 = ac3 := by
  unfold chgX
  rw [if_neg (by decide), if_neg (by decide), if_neg (by decide), if_pos (by decide), if_pos h1, h2, if_pos (by simp)]
  rfl
 have := do_good (l := [ac1]) (c := ch3) (x := ac3) (u := chgU ac1 ch3) (rightS_one stray1) (by rw [hf]; exact h3) (by rw [hf]; exact h4) (by unfold ac3; exact may_ac _ _ _ _ (rightB_one (by decide)) (by decide) (by decide)) (by rw [hp]; split <;> simp) (by rw [hf])
 rw [hp, show emptyB ac3 = false from empty_bal _ _ _ _ _ (by decide), if_neg (by decide)] at this
 exact ⟨this.1, this.2.1⟩
theorem do_4 : doE [ac1] ch4 = 1 ∧ doL [ac1] ch4 = [ac1] := by
 have h2 : chgE (findA [ac1] ch4.at_) ch4 = 1 := by unfold chgE; rfl
 have h : doE [ac1] ch4 = 1 := by
  unfold doE
  rw [if_neg (by rw [rightS_one stray1]; decide), h2, if_pos (by decide)]
 refine ⟨h, ?_⟩
 unfold doL
 rw [if_neg (by rw [h]; decide)]
theorem set_5 (x : Ac) : setE [⟨0, 0, 0, ⟨#[]⟩, []⟩] x = 1 := by
 unfold setE
 rw [if_pos (by unfold rightS; simp [strayB, empty_zero])]
theorem adC_at : adC atV = #[.int .u8 5, .int .u8 0, .int .u8 0, .int .u8 0, .int .u8 0, .int .u8 0, .int .u8 0, .int .u8 0, .int .u8 0, .int .u8 0, .int .u8 0, .int .u8 0, .int .u8 0, .int .u8 0, .int .u8 0, .int .u8 0, .int .u8 0, .int .u8 0, .int .u8 0, .int .u8 0] := by
 rfl
theorem small_w (n : Nat) (h : n < 1000) : wv n = .agg #[.int .u64 (n : Int), .int .u64 0, .int .u64 0, .int .u64 0] := by
 unfold wv
 have : ∀ n : Nat, n < 1000 → lim n 0 = (n : Int) ∧ lim n 1 = 0 ∧ lim n 2 = 0 ∧ lim n 3 = 0 := fun n h => by
  unfold lim
  refine ⟨?_, ?_, ?_, ?_⟩ <;> simp <;> omega
 obtain ⟨h0, h1, h2, h3⟩ := this n h
 rw [h0, h1, h2, h3]
def UA (W : World) (l : List Ac) (u : Ch) (er : Int) (f : Nat → Bool) (g : Nat → Value) (w : World) : Prop :=
 Below W.heap.size W w ∧ (f 4 = true → ∃ v, g 4 = .tuple #[v, .agg (chC u), .int .i64 er] ∧ StK w v l) ∧ (f 5 = true → g 5 = g 4) ∧ (f 6 = true → ∃ a b, g 4 = .tuple #[g 6, a, b]) ∧
 (f 9 = true → ∃ b, g 9 = .pointer (some ⟨b, 0, none⟩) ∧ W.heap.size ≤ b ∧ (f 11 = false → Has w b 33 #[.int .i64 0, .int .u8 0, .int .u8 0, .int .u8 0, .int .u8 0, .int .u8 0, .int .u8 0, .int .u8 0, .int .u8 0, .int .u8 0, .int .u8 0, .int .u8 0, .int .u8 0, .int .u8 0, .int .u8 0, .int .u8 0, .int .u8 0, .int .u8 0, .int .u8 0, .int .u8 0, .int .u8 0, .int .u64 0, .int .u64 0, .int .u64 0, .int .u64 0, .int .u64 0, .int .u64 0, .int .u64 0, .int .u64 0, .int .i64 0, .string { data := #[] }]) ∧ (f 11 = true → Has w b 33 (chC u))) ∧ (f 10 = true → g 10 = g 6)
section
variable {W : World} {l : List Ac} {u : Ch} {er : Int} {f : Nat → Bool} {g : Nat → Value} {w w' : World}
theorem UA.later (h : UA W l u er f g w) (hb : Below w.heap.size w w') : UA W l u er f g w' := by
 obtain ⟨h1, h2, h3, h4, h5, h6⟩ := h
 refine ⟨h1.trans (hb.mono h1.size), fun e => ?_, h3, h4, fun e => ?_, h6⟩
 ·obtain ⟨v, e1, e2⟩ := h2 e; exact ⟨v, e1, e2.later hb⟩
 ·obtain ⟨b, e1, e2, e3, e4⟩ := h5 e
  exact ⟨b, e1, e2, fun k => (e3 k).later hb, fun k => (e4 k).later hb⟩
theorem UA.same {f' : Nat → Bool} {g' : Nat → Value} (h : UA W l u er f g w) (hh : ∀ j, j = 4 ∨ j = 5 ∨ j = 6 ∨ j = 9 ∨ j = 10 ∨ j = 11 → f j = f' j ∧ g j = g' j) : UA W l u er f' g' w := by
 unfold UA at h ⊢
 rwa [(hh 4 (by omega)).1, (hh 4 (by omega)).2, (hh 5 (by omega)).1, (hh 5 (by omega)).2, (hh 6 (by omega)).1, (hh 6 (by omega)).2, (hh 9 (by omega)).1, (hh 9 (by omega)).2, (hh 10 (by omega)).1, (hh 10 (by omega)).2, (hh 11 (by omega)).1] at h
theorem UA.start (g : Nat → Value) : UA W l u er (fun _ => false) g { W with drawn := W.drawn + 1 } :=
 ⟨(Below.refl _ _).drew, fun h => absurd h (by simp), fun h => absurd h (by simp), fun h => absurd h (by simp), fun h => absurd h (by simp), fun h => absurd h (by simp)⟩
theorem UA.call (h : UA W l u er f g w) (hb : Below w.heap.size w w') (f1 : f 5 = false) (f2 : f 6 = false) {v : Value} (hk : StK w' v l) : UA W l u er (upd f 4 true) (upd g 4 (.tuple #[v, .agg (chC u), .int .i64 er])) w' := by
 obtain ⟨h1, h2, h3, h4, h5, h6⟩ := h.later hb
 exact ⟨h1, fun _ => ⟨v, by simp [upd], hk⟩, by simp [upd, f1], by simp [upd, f2], by simpa [upd] using h5, by simpa [upd] using h6⟩
theorem UA.move (h : UA W l u er f g w) : UA W l u er (upd f 5 true) (upd g 5 (g 4)) w := by
 obtain ⟨h1, h2, h3, h4, h5, h6⟩ := h
 exact ⟨h1, by simpa [upd] using h2, by simp [upd], by simpa [upd] using h4, by simpa [upd] using h5, by simpa [upd] using h6⟩
theorem UA.ext (h : UA W l u er f g w) (f1 : f 10 = false) {v a b : Value} (e : g 4 = .tuple #[v, a, b]) : UA W l u er (upd f 6 true) (upd g 6 v) w := by
 obtain ⟨h1, h2, h3, h4, h5, h6⟩ := h
 exact ⟨h1, by simpa [upd] using h2, by simpa [upd] using h3, fun _ => ⟨a, b, by simpa [upd] using e⟩, by simpa [upd] using h5, by simp [upd, f1]⟩
theorem UA.box (h : UA W l u er f g w) (f1 : f 11 = false) : UA W l u er (upd f 9 true) (upd g 9 (.pointer (some ⟨w.heap.size, 0, none⟩))) (w.alloc (.cells #[.int .i64 0, .int .u8 0, .int .u8 0, .int .u8 0, .int .u8 0, .int .u8 0, .int .u8 0, .int .u8 0, .int .u8 0, .int .u8 0, .int .u8 0, .int .u8 0, .int .u8 0, .int .u8 0, .int .u8 0, .int .u8 0, .int .u8 0, .int .u8 0, .int .u8 0, .int .u8 0, .int .u8 0, .int .u64 0, .int .u64 0, .int .u64 0, .int .u64 0, .int .u64 0, .int .u64 0, .int .u64 0, .int .u64 0, .int .i64 0, .string { data := #[] }] 33)) := by
 obtain ⟨h1, h2, h3, h4, h5, h6⟩ := h.later ((Below.refl w.heap.size w).alloc (Nat.le_refl _) (.cells #[.int .i64 0, .int .u8 0, .int .u8 0, .int .u8 0, .int .u8 0, .int .u8 0, .int .u8 0, .int .u8 0, .int .u8 0, .int .u8 0, .int .u8 0, .int .u8 0, .int .u8 0, .int .u8 0, .int .u8 0, .int .u8 0, .int .u8 0, .int .u8 0, .int .u8 0, .int .u8 0, .int .u8 0, .int .u64 0, .int .u64 0, .int .u64 0, .int .u64 0, .int .u64 0, .int .u64 0, .int .u64 0, .int .u64 0, .int .i64 0, .string { data := #[] }] 33))
 exact ⟨h1, by simpa [upd] using h2, by simpa [upd] using h3, by simpa [upd] using h4, fun _ => ⟨w.heap.size, by simp [upd], h.1.size, fun _ => Has.new w 33 #[.int .i64 0, .int .u8 0, .int .u8 0, .int .u8 0, .int .u8 0, .int .u8 0, .int .u8 0, .int .u8 0, .int .u8 0, .int .u8 0, .int .u8 0, .int .u8 0, .int .u8 0, .int .u8 0, .int .u8 0, .int .u8 0, .int .u8 0, .int .u8 0, .int .u8 0, .int .u8 0, .int .u8 0, .int .u64 0, .int .u64 0, .int .u64 0, .int .u64 0, .int .u64 0, .int .u64 0, .int .u64 0, .int .u64 0, .int .i64 0, .string { data := #[] }], fun k => by simp [upd, f1] at k⟩, by simpa [upd] using h6⟩
theorem UA.asg (h : UA W l u er f g w) : UA W l u er (upd f 10 true) (upd g 10 (g 6)) w := by
 obtain ⟨h1, h2, h3, h4, h5, h6⟩ := h
 exact ⟨h1, by simpa [upd] using h2, by simpa [upd] using h3, by simpa [upd] using h4, by simpa [upd] using h5, by simp [upd]⟩
theorem UA.put (h : UA W l u er f g w) (fa : f 9 = true) (f1 : f 11 = false) {b : Nat} (eb : g 9 = .pointer (some ⟨b, 0, none⟩)) (v : Value) : UA W l u er (upd f 11 true) (upd g 11 v) (w.setRow b (chC u)) := by
 obtain ⟨h1, h2, h3, h4, h5, h6⟩ := h
 obtain ⟨b', e1, e2, e3, e4⟩ := h5 fa
 rw [eb] at e1
 injection e1 with e1
 injection e1 with e1
 injection e1 with e1 _ _
 subst e1
 have hz := e3 f1
 refine ⟨below_rowAc h1 e2 _, fun k => ?_, by simpa [upd] using h3, by simpa [upd] using h4, fun _ => ⟨b, by simpa [upd] using eb, e2, fun k => by simp [upd] at k, fun _ => setRow_heap _ _ _ _ _ _ hz⟩, by simpa [upd] using h6⟩
 obtain ⟨s, k1, k2⟩ := h2 (by simpa [upd] using k)
 exact ⟨s, by simpa [upd] using k1, k2.row hz (by decide) _⟩
end
def UB (W : World) (l : List Ac) (u : Ch) (er : Int) (f : Nat → Bool) (g : Nat → Value) (w : World) : Prop :=
 Below W.heap.size W w ∧ (f 7 = true → ∃ v, g 7 = .tuple #[v, .agg (chC u), .int .i64 er] ∧ StK w v l) ∧ (f 8 = true → g 8 = g 7) ∧ (f 9 = true → ∃ a b, g 7 = .tuple #[g 9, a, b]) ∧
 (f 12 = true → ∃ b, g 12 = .pointer (some ⟨b, 0, none⟩) ∧ W.heap.size ≤ b ∧ (f 14 = false → Has w b 33 #[.int .i64 0, .int .u8 0, .int .u8 0, .int .u8 0, .int .u8 0, .int .u8 0, .int .u8 0, .int .u8 0, .int .u8 0, .int .u8 0, .int .u8 0, .int .u8 0, .int .u8 0, .int .u8 0, .int .u8 0, .int .u8 0, .int .u8 0, .int .u8 0, .int .u8 0, .int .u8 0, .int .u8 0, .int .u64 0, .int .u64 0, .int .u64 0, .int .u64 0, .int .u64 0, .int .u64 0, .int .u64 0, .int .u64 0, .int .i64 0, .string { data := #[] }]) ∧ (f 14 = true → Has w b 33 (chC u))) ∧ (f 13 = true → g 13 = g 9)
section
variable {W : World} {l : List Ac} {u : Ch} {er : Int} {f : Nat → Bool} {g : Nat → Value} {w w' : World}
theorem UB.later (h : UB W l u er f g w) (hb : Below w.heap.size w w') : UB W l u er f g w' := by
 obtain ⟨h1, h2, h3, h4, h5, h6⟩ := h
 refine ⟨h1.trans (hb.mono h1.size), fun e => ?_, h3, h4, fun e => ?_, h6⟩
 ·obtain ⟨v, e1, e2⟩ := h2 e; exact ⟨v, e1, e2.later hb⟩
 ·obtain ⟨b, e1, e2, e3, e4⟩ := h5 e
  exact ⟨b, e1, e2, fun k => (e3 k).later hb, fun k => (e4 k).later hb⟩
theorem UB.same {f' : Nat → Bool} {g' : Nat → Value} (h : UB W l u er f g w) (hh : ∀ j, j = 7 ∨ j = 8 ∨ j = 9 ∨ j = 12 ∨ j = 13 ∨ j = 14 → f j = f' j ∧ g j = g' j) : UB W l u er f' g' w := by
 unfold UB at h ⊢
 rwa [(hh 7 (by omega)).1, (hh 7 (by omega)).2, (hh 8 (by omega)).1, (hh 8 (by omega)).2, (hh 9 (by omega)).1, (hh 9 (by omega)).2, (hh 12 (by omega)).1, (hh 12 (by omega)).2, (hh 13 (by omega)).1, (hh 13 (by omega)).2, (hh 14 (by omega)).1] at h
theorem UB.start (g : Nat → Value) : UB W l u er (fun _ => false) g { W with drawn := W.drawn + 1 } :=
 ⟨(Below.refl _ _).drew, fun h => absurd h (by simp), fun h => absurd h (by simp), fun h => absurd h (by simp), fun h => absurd h (by simp), fun h => absurd h (by simp)⟩
theorem UB.call (h : UB W l u er f g w) (hb : Below w.heap.size w w') (f1 : f 8 = false) (f2 : f 9 = false) {v : Value} (hk : StK w' v l) : UB W l u er (upd f 7 true) (upd g 7 (.tuple #[v, .agg (chC u), .int .i64 er])) w' := by
 obtain ⟨h1, h2, h3, h4, h5, h6⟩ := h.later hb
 exact ⟨h1, fun _ => ⟨v, by simp [upd], hk⟩, by simp [upd, f1], by simp [upd, f2], by simpa [upd] using h5, by simpa [upd] using h6⟩
theorem UB.move (h : UB W l u er f g w) : UB W l u er (upd f 8 true) (upd g 8 (g 7)) w := by
 obtain ⟨h1, h2, h3, h4, h5, h6⟩ := h
 exact ⟨h1, by simpa [upd] using h2, by simp [upd], by simpa [upd] using h4, by simpa [upd] using h5, by simpa [upd] using h6⟩
theorem UB.ext (h : UB W l u er f g w) (f1 : f 13 = false) {v a b : Value} (e : g 7 = .tuple #[v, a, b]) : UB W l u er (upd f 9 true) (upd g 9 v) w := by
 obtain ⟨h1, h2, h3, h4, h5, h6⟩ := h
 exact ⟨h1, by simpa [upd] using h2, by simpa [upd] using h3, fun _ => ⟨a, b, by simpa [upd] using e⟩, by simpa [upd] using h5, by simp [upd, f1]⟩
theorem UB.box (h : UB W l u er f g w) (f1 : f 14 = false) : UB W l u er (upd f 12 true) (upd g 12 (.pointer (some ⟨w.heap.size, 0, none⟩))) (w.alloc (.cells #[.int .i64 0, .int .u8 0, .int .u8 0, .int .u8 0, .int .u8 0, .int .u8 0, .int .u8 0, .int .u8 0, .int .u8 0, .int .u8 0, .int .u8 0, .int .u8 0, .int .u8 0, .int .u8 0, .int .u8 0, .int .u8 0, .int .u8 0, .int .u8 0, .int .u8 0, .int .u8 0, .int .u8 0, .int .u64 0, .int .u64 0, .int .u64 0, .int .u64 0, .int .u64 0, .int .u64 0, .int .u64 0, .int .u64 0, .int .i64 0, .string { data := #[] }] 33)) := by
 obtain ⟨h1, h2, h3, h4, h5, h6⟩ := h.later ((Below.refl w.heap.size w).alloc (Nat.le_refl _) (.cells #[.int .i64 0, .int .u8 0, .int .u8 0, .int .u8 0, .int .u8 0, .int .u8 0, .int .u8 0, .int .u8 0, .int .u8 0, .int .u8 0, .int .u8 0, .int .u8 0, .int .u8 0, .int .u8 0, .int .u8 0, .int .u8 0, .int .u8 0, .int .u8 0, .int .u8 0, .int .u8 0, .int .u8 0, .int .u64 0, .int .u64 0, .int .u64 0, .int .u64 0, .int .u64 0, .int .u64 0, .int .u64 0, .int .u64 0, .int .i64 0, .string { data := #[] }] 33))
 exact ⟨h1, by simpa [upd] using h2, by simpa [upd] using h3, by simpa [upd] using h4, fun _ => ⟨w.heap.size, by simp [upd], h.1.size, fun _ => Has.new w 33 #[.int .i64 0, .int .u8 0, .int .u8 0, .int .u8 0, .int .u8 0, .int .u8 0, .int .u8 0, .int .u8 0, .int .u8 0, .int .u8 0, .int .u8 0, .int .u8 0, .int .u8 0, .int .u8 0, .int .u8 0, .int .u8 0, .int .u8 0, .int .u8 0, .int .u8 0, .int .u8 0, .int .u8 0, .int .u64 0, .int .u64 0, .int .u64 0, .int .u64 0, .int .u64 0, .int .u64 0, .int .u64 0, .int .u64 0, .int .i64 0, .string { data := #[] }], fun k => by simp [upd, f1] at k⟩, by simpa [upd] using h6⟩
theorem UB.asg (h : UB W l u er f g w) : UB W l u er (upd f 13 true) (upd g 13 (g 9)) w := by
 obtain ⟨h1, h2, h3, h4, h5, h6⟩ := h
 exact ⟨h1, by simpa [upd] using h2, by simpa [upd] using h3, by simpa [upd] using h4, by simpa [upd] using h5, by simp [upd]⟩
theorem UB.put (h : UB W l u er f g w) (fa : f 12 = true) (f1 : f 14 = false) {b : Nat} (eb : g 12 = .pointer (some ⟨b, 0, none⟩)) (v : Value) : UB W l u er (upd f 14 true) (upd g 14 v) (w.setRow b (chC u)) := by
 obtain ⟨h1, h2, h3, h4, h5, h6⟩ := h
 obtain ⟨b', e1, e2, e3, e4⟩ := h5 fa
 rw [eb] at e1
 injection e1 with e1
 injection e1 with e1
 injection e1 with e1 _ _
 subst e1
 have hz := e3 f1
 refine ⟨below_rowAc h1 e2 _, fun k => ?_, by simpa [upd] using h3, by simpa [upd] using h4, fun _ => ⟨b, by simpa [upd] using eb, e2, fun k => by simp [upd] at k, fun _ => setRow_heap _ _ _ _ _ _ hz⟩, by simpa [upd] using h6⟩
 obtain ⟨s, k1, k2⟩ := h2 (by simpa [upd] using k)
 exact ⟨s, by simpa [upd] using k1, k2.row hz (by decide) _⟩
end
end Go.Proofs.YtkicmbdjihjgfaaGreatDoor
