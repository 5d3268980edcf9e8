/- size and held: how many bytes an item has. Conditions: the item lies in memory, is right, and has no more than 2^61 bytes. -/
import Derived.Test.YtkicmbdjihjgfaaGreatDoorG23
import Derived.Test.YtkicmbdjihjgfaaGreatDoorG03
import Derived.Test.YtkicmbdjihjgfaaGreatDoorG07
import Derived.Laws.BytesArg
set_option maxRecDepth 100000
set_option maxHeartbeats 16000000
open List (setIfInBounds_toArray set_cons_succ set_cons_zero)
namespace Go.Proofs.YtkicmbdjihjgfaaGreatDoor
open Go Go.RowKit
attribute [local go_sem] Oper.semAt_some Grows wide_fn
def heldB (t : It) : List UInt8 := t.bytes.data.toList ++ encL t.kids
theorem enc_held {d : Nat} {t : It} (h : RightI d t) : encI t = headI t (heldB t).length ++ heldB t := by
 obtain ⟨l, b, ks⟩ := t
 cases d with
 | zero => exact h.elim
 | succ d =>
  obtain ⟨h1, h2, _⟩ := h
  cases l with
  | true =>
   have hb : b = ⟨#[]⟩ := h1 rfl
   subst hb
   rw [encI_list]
   rfl
  | false =>
   have hk : ks = [] := List.length_eq_zero_iff.1 (h2 rfl)
   subst hk
   have he : heldB (.mk false b []) = b.data.toList := by simp [heldB, It.bytes, It.kids, encL]
   rw [he]
   rcases hbb : bareB b.data.toList with _ | _
   ·rw [encI_text b hbb]; simp [headI, It.list, It.bytes, hbb]
   ·rw [encI_bare b hbb]; simp [headI, It.list, It.bytes, hbb]
theorem encL_take : ∀ (ks : List It) (k : Nat) (x : It), ks[k]? = some x → encL (ks.take (k + 1)) = encL (ks.take k) ++ encI x
 | [], k, x, h => by simp at h
 | y :: ks, 0, x, h => by
  simp at h
  subst h
  simp [encL]
 | y :: ks, k + 1, x, h => by
  have h' : ks[k]? = some x := by simpa using h
  have := encL_take ks k x h'
  simp only [List.take_succ_cons, encL] at this ⊢
  rw [this, List.append_assoc]
theorem encL_part : ∀ (ks : List It) (k : Nat), (encL (ks.take k)).length ≤ (encL ks).length
 | [], k => by simp [encL]
 | y :: ks, 0 => by simp [encL]
 | y :: ks, k + 1 => by
  have := encL_part ks k
  simp only [List.take_succ_cons, encL, List.length_append] at this ⊢
  omega
def SeqP (N : Nat) (J Jx : Nat → World → Prop) (e : Ending) (W' : World) : Prop := (∃ v, e = .returned v) ∧ (J N W' ∨ ∃ k, k < N ∧ Jx k W')
def EK (w0 : World) (ks : List It) (k : Nat) (args : Array Value) (_ : World) : Prop := ∃ x v, ks[k]? = some x ∧ args = #[.int .i64 ((k : Nat) : Int), v] ∧ ItemAt w0 x v
theorem kids_seq (n : Nat) (ks : List It) (a : Option Addr) (cap Bx : Nat) (w0 w : World) (hk : KidsIn w0 ks a) (hn : ks.length ≤ 1099511627776) (hB : Below w0.heap.size w0 w) (hX : Has w Bx 76 #[.slice a ks.length cap]) :
  SeqC Fence.wide n Tryz.prog 148 #[.pointer (some ⟨Bx, 0, none⟩)] (EK w0 ks) (Kd w0.heap.size) GrR ks.length w := by
 intro ll J Jx W hW hJA hJxA hY h0
 have hlt := hX.lt
 have LX := hX.below hW hlt
 have c0 := LX.cell 0 _ rfl
 have HJ := hid (And.intro hJA hJxA)
 have HY := hid (fun k args W1 hk hJ hE => yieldAt_anyR (m := 7) (hY k args W1 hk hJ hE))
 have HK := hid hk
 have hW0 := hid (hB.trans (hW.mono hB.size))
 have h0' := hid h0
 clear hY hJA hJxA h0 hk hB hX hlt hW LX
 obtain ⟨m, en⟩ : ∃ m, ks.length = m := ⟨_, rfl⟩
 rw [en] at hn c0 ⊢
 replace en := hid en
 have hfin := hid (show ∀ (X : World) k, k < m → Jx k X → SeqP m J Jx (.returned (.tuple #[])) X from fun X k h1 h2 => ⟨⟨_, rfl⟩, .inr ⟨k, h1, h2⟩⟩)
 show CallsIn _ _ _ _ _ _ (SeqP m J Jx)
 refine callsIn_free free_wide ((callsIn_wide (n := 8)).1 ?_)
 refine callsIn_of_wp Tryz.func148 rfl trivial ?_ rfl
 simp only [Tryz.ntmps148, List.size_toArray, List.length_cons, List.length_nil, Nat.reduceAdd, Nat.reduceSub, Array.replicate_succ, Array.replicate_zero, List.push_toArray, List.append_toArray, List.nil_append, List.cons_append]
 gi_wp2_with fail
 gi_loopw [7] (fun i wr => ∃ k : Nat, k ≤ m ∧ i = .int .i64 (k : Int) ∧ J k wr ∧ Kd w0.heap.size W wr) (fun i _ => m - (intOf i).toNat)
 case atStart => exact ⟨0, by omega, rfl, h0'.out, Kd.refl _ _⟩
 case round =>
  clear h0'
  obtain ⟨k, hkn, rfl, hJ, kd⟩ := hrel
  by_cases hk5 : k < m
  ·have hkI : (k : Int) < (m : Int) := by omega
   have hk0 : (0 : Int) ≤ (k : Int) := by omega
   obtain ⟨g, o, rfl, hK⟩ := HK.out.resolve_left (fun h => by have h2 := en.out; rw [h] at h2; simp at h2; omega)
   obtain ⟨kx, hkx⟩ : ∃ kx, ks[k]? = some kx := ⟨_, List.getElem?_eq_getElem (by have := en.out; omega)⟩
   obtain ⟨l1, b1, a1, n1, cap1, e0, e1, e2, hi⟩ := hK.get3 k _ hkx
   have hB := hW0.out.trans kd.1
   replace e0 := (hB.cell (p := ⟨g, _, none⟩) (ltCell e0)).trans e0
   replace e1 := (hB.cell (p := ⟨g, _, none⟩) (ltCell e1)).trans e1
   replace e2 := (hB.cell (p := ⟨g, _, none⟩) (ltCell e2)).trans e2
   have NX := Has.new wr 78 #[.bool false, .string ⟨#[]⟩, .slice none 0 0]
   have x0 := NX.cell 0 _ rfl
   have x1 := NX.cell 1 _ rfl
   have x2 := NX.cell 2 _ rfl
   have f0 := NX.frozen 0
   have f1 := NX.frozen 1
   have f2 := NX.frozen 2
   replace NX := hid NX
   have q := (Below.refl wr.heap.size wr).alloc (Nat.le_refl _) (.cells #[.bool l1, .string b1, .slice a1 n1 cap1] 78)
   obtain ⟨fn, tmps, assign, body, hy, hR⟩ := HY.out k #[.int .i64 (k : Int), .agg #[.bool l1, .string b1, .slice a1 n1 cap1]] (wr.alloc (.cells #[.bool l1, .string b1, .slice a1 n1 cap1] 78)) (by have := en.out; omega) (HJ.out.1 _ _ _ hJ q) ⟨kx, _, hkx, rfl, hi⟩
   have kdA := hid (kd.trans (Kd.grow q hB.size))
   have lg := ltCell e0
   clear hB hi hK HK hJ kd q HJ hkx
   gi_wp2_with fail
   refine (roundIn_anyR hR).mono ?_
   rintro e W3 (⟨rfl, hJ3, hk3⟩ | ⟨rfl, hJx3⟩)
   ·have kd3 := hid (kdA.out.trans hk3)
    replace hJ3 := hid hJ3
    clear hk3 kdA x0 x1 x2 f0 f1 f2 e0 e1 e2 NX lg hR hy
    gi_wp2_with fail
    go_roundw
    case rel => exact ⟨k + 1, by omega, by simp, hJ3.out, kd3.out⟩
    case measure => simp [intOf]; omega
   ·have hE := hid (hfin.out _ _ hk5 hJx3)
    clear kdA x0 x1 x2 f0 f1 f2 e0 e1 e2 NX lg hJx3 hR hy
    gi_wp2_with fail
    refine bodyPost_ret (results_none rfl _ _ _) rfl ?_
    exact hE.out
  ·obtain rfl : k = m := by omega
   have hE := hid (show SeqP k J Jx (.returned (.tuple #[])) wr from ⟨⟨_, rfl⟩, .inl hJ⟩)
   clear hJ kd
   gi_wp2_with fail
   first | go_end0 | skip
   exact hE.out
theorem slAll_any (a : Option Addr) (n cap : Nat) (w : World) : Calls Tryz.prog 120 #[.slice a n cap] w fun e w' => e = .returned (.func (.func 148) #[] #[.pointer (some ⟨w.heap.size, 0, none⟩)]) ∧ w.alloc (.cells #[.slice a n cap] 76) = w' := by
 go_enter Tryz.func120, Tryz.ntmps120
 go_wp2_with fail
 go_ret
 exact ⟨rfl, rfl⟩
def SizeAt (t : It) : Prop := ∀ (v : Value) (w : World), ItemAt w t v → Calls Tryz.prog 65 #[v] w fun e w' => e = .returned (.int .i64 (((encI t).length : Nat) : Int)) ∧ Below w.heap.size w w'
theorem held1_any (t : It) (HS : SizeAt t) (n : Nat) (hb : n + (encI t).length ≤ 2305843009213693952) (v : Value) (w : World) (ht : ItemAt w t v) :
  Calls Tryz.prog 121 #[.int .i64 (n : Int), v] w fun e w' => e = .returned (.int .i64 (((n + (encI t).length : Nat)) : Int)) ∧ Below w.heap.size w w' := by
 obtain ⟨a, cap, rfl, _, _, _⟩ := ht.open
 have q := (Below.refl w.heap.size w).alloc (Nat.le_refl _) (.cells #[.bool t.list, .string t.bytes, .slice a t.kids.length cap] 78)
 have HC := hid (HS _ _ (ht.later q))
 have LX := Has.new w 78 #[.bool t.list, .string t.bytes, .slice a t.kids.length cap]
 have c0 := LX.cell 0 _ rfl
 have c1 := LX.cell 1 _ rfl
 have c2 := LX.cell 2 _ rfl
 replace LX := hid LX
 replace q := hid q
 have hcast := hid (Int.natCast_add n (encI t).length)
 have hbI : (n : Int) + ((encI t).length : Int) ≤ 2305843009213693952 := by omega
 generalize (encI t).length = L at *
 have h0 : (0 : Int) ≤ (n : Int) := by omega
 have h1 : (0 : Int) ≤ (L : Int) := by omega
 clear ht HS hb
 go_enter Tryz.func121, Tryz.ntmps121
 go_wp2_with fail
 refine HC.out.mono ?_
 rintro _ W2 ⟨rfl, q2⟩
 replace q := hid (q.out.trans (q2.mono q.out.size))
 clear HC c0 c1 c2 q2 LX
 go_wp2_with fail
 go_ret
 exact ⟨by rw [hcast.out]; rfl, q.out⟩
def SumSt (w : World) (f s0 : Nat) (ks : List It) (Bs Bf k : Nat) (W : World) : Prop :=
 (Has W Bs 3 #[.int .i64 (((s0 + (encL (ks.take k)).length : Nat)) : Int)] ∧ Has W Bf 146 #[.func (.func f) #[] #[]]) ∧ Below w.heap.size w W
theorem SumSt.later {w : World} {f s0 : Nat} {ks : List It} {Bs Bf k : Nat} {A X : World} (h : SumSt w f s0 ks Bs Bf k A) (hb : Below A.heap.size A X) : SumSt w f s0 ks Bs Bf k X :=
 ⟨⟨h.1.1.later hb, h.1.2.later hb⟩, h.2.trans (hb.mono h.2.size)⟩
theorem SumSt.own {w : World} {f s0 : Nat} {ks : List It} {Bs Bf n : Nat} (hn : w.heap.size ≤ n) : OwnFrom n (fun k W => SumSt w f s0 ks Bs Bf k W) := fun k A X row hs hg hr =>
 ⟨⟨hs.1.1.ownR hg (fun r e => (hr r e).2), hs.1.2.ownR hg (fun r e => (hr r e).2)⟩, below_ownR hs.2 hg hn (fun r e => (hr r e).1)⟩
theorem gatherInt_any (ks : List It) (HS : ∀ k ∈ ks, SizeAt k) (s0 : Nat) (hb : s0 + (encL ks).length ≤ 2305843009213693952) (a : Option Addr) (cap Bx : Nat) (w0 w : World) (hB : Below w0.heap.size w0 w) (hk : KidsIn w0 ks a) (hn : ks.length ≤ 1099511627776) (hX : Has w Bx 76 #[.slice a ks.length cap]) :
  Calls Tryz.prog 119 #[.func (.func 148) #[] #[.pointer (some ⟨Bx, 0, none⟩)], .int .i64 (s0 : Int), .func (.func 121) #[] #[]] w fun e w' => e = .returned (.int .i64 (((s0 + (encL ks).length : Nat)) : Int)) ∧ Below w.heap.size w w' := by
 have hmx : Tryz.prog.follows .mixedOrders = true := by kernel_rfl
 have HSK := hid HS
 have HKK := hid hk
 have HBB := hid hB
 have hbH := hid hb
 have hnH := hid hn
 clear HS hk hb hn hB
 refine (callsIn_wide (n := 8)).1 ?_
 refine callsIn_of_wp_marks Tryz.func119 rfl trivial ?_ rfl
 simp only [Tryz.ntmps119, List.size_toArray, List.length_cons, List.length_nil, Nat.reduceAdd, Nat.reduceSub, Array.replicate_succ, Array.replicate_zero, List.push_toArray, List.append_toArray, List.nil_append, List.cons_append]
 have LS := (Has.new w 3 #[.int .i64 (s0 : Int)]).alloc (.cells #[.func (.func 121) #[] #[]] 146)
 have LF := Has.new (w.alloc (.cells #[.int .i64 (s0 : Int)] 3)) 146 #[.func (.func 121) #[] #[]]
 simp only [World.size_alloc] at LF
 have LX := (hX.alloc (.cells #[.int .i64 (s0 : Int)] 3)).alloc (.cells #[.func (.func 121) #[] #[]] 146)
 have Q := ((Below.refl w.heap.size w).alloc (Nat.le_refl _) (.cells #[.int .i64 (s0 : Int)] 3)).alloc (by simp) (.cells #[.func (.func 121) #[] #[]] 146)
 have hs2 : ((w.alloc (.cells #[.int .i64 (s0 : Int)] 3)).alloc (.cells #[.func (.func 121) #[] #[]] 146)).heap.size = w.heap.size + 2 := by simp
 replace LS := hid LS
 replace LF := hid LF
 replace LX := hid LX
 replace Q := hid Q
 replace hs2 := hid hs2
 clear hX
 gi_wp2_with fail
 generalize (w.alloc (.cells #[.int .i64 (s0 : Int)] 3)).alloc (.cells #[.func (.func 121) #[] #[]] 146) = W2 at *
 refine wpIn_rangeFunc_C rfl (by omega) (gf := 148) (lb := #[.pointer (some ⟨Bx, 0, none⟩)]) rfl trivial (enters_of Tryz.func148 (by kernel_rfl) rfl)
  (kids_seq _ ks a cap Bx w0 W2 HKK.out hnH.out (HBB.out.trans (Q.out.mono HBB.out.size)) LX.out) GrR.keeps Kd.trans (fun W l o o' hl h1 h2 _ => Kd.put W l o o' (by have := hs2.out; have := HBB.out.size; omega) h1 h2) (fun k args W _ hE => by obtain ⟨x, v', _, e, _⟩ := hE; rw [e]; rfl)
  (fun k W => SumSt w 121 s0 ks w.heap.size (w.heap.size + 1) k W) (fun _ _ _ => False) (SumSt.own (by have := hs2.out; omega)) (fun c k A X row hs hg hr => hs)
  (fun s V X hs hb => hs.later hb) (fun c s V X hs hb => hs) ⟨⟨by rw [show (encL (ks.take 0)).length = 0 by simp [encL]]; exact LS.out, LF.out⟩, Q.out⟩
  (fun k a' V => ∃ x l1 b1 a1 n1 cap1 bx, ks[k]? = some x ∧ ItemAt w0 x (.agg #[.bool l1, .string b1, .slice a1 n1 cap1]) ∧ Has V bx 78 #[.bool l1, .string b1, .slice a1 n1 cap1] ∧
   a' = { tmps := #[.func (.func 148) #[] #[.pointer (some ⟨Bx, 0, none⟩)], .int .i64 (s0 : Int), .func (.func 121) #[] #[], undef, .pointer (some ⟨w.heap.size, 0, none⟩), .pointer (some ⟨w.heap.size + 1, 0, none⟩), .int .i64 0, undef, .pointer (some ⟨bx, 0, none⟩), .func (.func 148) #[] #[.pointer (some ⟨Bx, 0, none⟩)], .int .i64 ((k : Nat) : Int), .agg #[.bool l1, .string b1, .slice a1 n1 cap1], undef, undef, undef, undef, undef], defers := [] })
  (fun k a' _ X Y row hs hg hr => by
   obtain ⟨x, l1, b1, a1, n1, cap1, bx, h1, h2, h3, e⟩ := hs
   exact ⟨x, l1, b1, a1, n1, cap1, bx, h1, h2, h3.ownR hg (fun r e => (hr r e).2), e⟩) ?assign ?body ?done ?stop
 case assign =>
  intro ll k args W K hll hkN hst hE hK
  obtain ⟨x, v', h1, rfl, h3⟩ := hE
  obtain ⟨a1, cap1, rfl, _, _, _⟩ := h3.open
  have HST := hid hst
  have HK := hid hK
  have H3 := hid h3
  have H1 := hid h1
  clear hst hkN hK h3 h1
  have NX := Has.new W 78 #[.bool false, .string ⟨#[]⟩, .slice none 0 0]
  have x0 := NX.cell 0 _ rfl
  have x1 := NX.cell 1 _ rfl
  have x2 := NX.cell 2 _ rfl
  have f0 := NX.frozen 0
  have f1 := NX.frozen 1
  have f2 := NX.frozen 2
  replace NX := hid NX
  generalize x.list = l1 at *
  generalize x.bytes = b1 at *
  generalize x.kids.length = n1 at *
  gi_wp2_with fail
  have hg := (Below.refl W.heap.size W).alloc (Nat.le_refl _) (.cells #[.bool l1, .string b1, .slice a1 n1 cap1] 78)
  exact HK.out _ _ ((KeepsOthers.alloc _ _).from _) (Kd.grow hg (Nat.le_trans HBB.out.size HST.out.2.size)) (HST.out.later hg) ⟨x, l1, b1, a1, n1, cap1, W.heap.size, H1.out, H3.out, Has.new _ _ _, rfl⟩
 case body =>
  rintro ll k a' W hl hlo hkN hst ⟨x, l1, b1, a1, n1, cap1, bx, h1, h2, h3, rfl⟩
  have hm : x ∈ ks := List.mem_of_getElem? h1
  have htk := encL_take ks k x h1
  have hpt := encL_part ks (k + 1)
  rw [htk, List.length_append] at hpt
  have hbb := hbH.out
  have e0 := h3.cell 0 _ rfl
  have e1 := h3.cell 1 _ rfl
  have e2 := h3.cell 2 _ rfl
  have cS := hst.1.1.cell 0 _ rfl
  have cF := hst.1.2.cell 0 _ rfl
  have HC := hid (held1_any x (HSK.out x hm) (s0 + (encL (ks.take k)).length) (by omega) (.agg #[.bool l1, .string b1, .slice a1 n1 cap1]) W (h2.later (HBB.out.trans (hst.2.mono HBB.out.size))))
  have hnx := hid (show s0 + (encL (ks.take k)).length + (encI x).length = s0 + (encL (ks.take (k + 1))).length by rw [htk, List.length_append]; omega)
  have HST := hid hst
  generalize s0 + (encL (ks.take k)).length = S at *
  clear h1 h2 h3 hst hm htk hpt hbb hl hlo hkN
  gi_wp2_with fail
  refine (callsIn_free (free_round ll) HC.out).mono ?_
  rintro _ W3 ⟨rfl, q⟩
  rw [hnx.out]
  have LS3 := HST.out.1.1.later q
  have LF3 := HST.out.1.2.later q
  have Q3 := HST.out.2.trans (q.mono HST.out.2.size)
  have c3 := LS3.cell 0 _ rfl
  have f3 := LS3.frozen 0
  have KE := hid ((⟨q.size, fun k _ _ h _ => (q.block k (Array.getElem?_eq_some_iff.1 h).1).trans h⟩ : KeepsFrom W2.heap.size W W3).trans ((KeepsOthers.setCell W3 ⟨w.heap.size, 0, none⟩ (.int .i64 (((s0 + (encL (ks.take (k + 1))).length : Nat)) : Int))).from W2.heap.size))
  have KD := hid ((Kd.grow q (Nat.le_trans HBB.out.size HST.out.2.size)).trans (Kd.set (n := w0.heap.size) LS3 (by decide) HBB.out.size 0 (.int .i64 (((s0 + (encL (ks.take (k + 1))).length : Nat)) : Int))))
  have ST := hid (show SumSt w 121 s0 ks w.heap.size (w.heap.size + 1) (k + 1) (W3.setCell ⟨w.heap.size, 0, none⟩ (.int .i64 (((s0 + (encL (ks.take (k + 1))).length : Nat)) : Int))) from ⟨⟨LS3.set 0 _, LF3.other (by simp) _⟩, Q3.setCell (by simp) _⟩)
  clear q LS3 LF3 Q3 HC hnx HST e0 e1 e2 cS cF
  generalize s0 + (encL (ks.take (k + 1))).length = S2 at *
  gi_wp2_with fail
  exact ⟨KE.out, KD.out, ST.out⟩
 case done =>
  rintro D W hD hst hK
  have cS := hst.1.1.cell 0 _ rfl
  rw [show (encL (ks.take ks.length)).length = (encL ks).length by rw [List.take_length]] at cS
  have Q3 := hid (show Below w.heap.size w (W.putObj D (.deferred none)) from hst.2.trans ⟨rfl, rfl, rfl, by simp, fun k hk => World.putObj_heap_other (by have := hs2.out; omega)⟩)
  replace hK := hid hK
  clear hst
  obtain ⟨S, hS⟩ : ∃ S, s0 + (encL ks).length = S := ⟨_, rfl⟩
  rw [hS] at cS
  replace hS := hid hS
  gi_wp2_with fail
  refine ⟨by simp, .inl ⟨_, _, rfl, run_takeDeferred hK.out, ?_⟩⟩
  exact ⟨.int .i64 ((S : Nat) : Int), by simp [results, Tryz.results119, go_sem], by rw [hS.out], Q3.out⟩
 case stop =>
  rintro D c k W hD hk h hK
  exact h.elim
theorem held_any (t : It) (HS : ∀ k ∈ t.kids, SizeAt k) (hb : (heldB t).length ≤ 2305843009213693952) (v : Value) (w : World) (ht : ItemAt w t v) :
  Calls Tryz.prog 95 #[v] w fun e w' => e = .returned (.int .i64 (((heldB t).length : Nat) : Int)) ∧ Below w.heap.size w w' := by
 have hmx : Tryz.prog.follows .mixedOrders = true := by kernel_rfl
 obtain ⟨a, cap, rfl, hn, hs, hk⟩ := ht.open
 have hbs : t.bytes.data.toList.length = t.bytes.size := by simp
 have hL : (heldB t).length = t.bytes.size + (encL t.kids).length := by unfold heldB; rw [List.length_append, hbs]
 rw [hL] at hb ⊢
 have HG := hid (fun (W : World) (B : Nat) (hB : Below w.heap.size w W) (hX : Has W B 76 #[.slice a t.kids.length cap]) => gatherInt_any t.kids HS t.bytes.size hb a cap B w W hB hk hn hX)
 clear ht hk HS hL hbs
 have Q := (Below.refl w.heap.size w).alloc (Nat.le_refl _) (.cells #[.bool t.list, .string t.bytes, .slice a t.kids.length cap] 78)
 have LX := Has.new w 78 #[.bool t.list, .string t.bytes, .slice a t.kids.length cap]
 obtain ⟨S, hS⟩ : ∃ S, t.bytes.size + (encL t.kids).length = S := ⟨_, rfl⟩
 rw [hS] at HG hb ⊢
 clear hS
 generalize t.bytes = b at *
 generalize t.kids.length = n at *
 generalize t.list = l at *
 go_enter Tryz.func95, Tryz.ntmps95
 go_wp2_with fail
 obtain ⟨W1, hW1⟩ : ∃ W1, w.alloc (.cells #[.bool l, .string b, .slice a n cap] 78) = W1 := ⟨_, rfl⟩
 rw [hW1] at Q LX ⊢
 clear hW1
 refine wp_region_ghost [some (.pointer (some ⟨w.heap.size, 2, none⟩)), some (.slice a n cap), none, some (.pointer (some ⟨w.heap.size, 1, none⟩)), some (.string b), some (.int .i64 (b.size : Int)), some (.int .i64 (S : Int)), some (.int .i64 (S : Int))] [[], [0], [0, 1], [], [3], [3, 4], [0, 1, 2, 3, 4, 5], [0, 1, 2, 3, 4, 5, 6]]
  (fun f g' w' => (Below w.heap.size w w' ∧ Has w' w.heap.size 78 #[.bool l, .string b, .slice a n cap]) ∧ (f 2 = true → ∃ B, g' 2 = .func (.func 148) #[] #[.pointer (some ⟨B, 0, none⟩)] ∧ Has w' B 76 #[.slice a n cap]))
  (by kernel_rfl) (by kernel_rfl) (by kernel_rfl) ?_ ?_ ?_ ?_
 ·rintro f g' wa wb ⟨⟨h1, h2⟩, h3⟩ hb
  exact ⟨⟨h1.trans (hb.mono h1.size), h2.later hb⟩, fun hf => by obtain ⟨B, e, h⟩ := h3 hf; exact ⟨B, e, h.later hb⟩⟩
 ·intro f f' g1 g1' wa h
  have ha := h 2 rfl
  rw [ha.1, ha.2]
  exact id
 ·exact ⟨⟨Q.drew, LX⟩, fun h => by cases h⟩
 rintro f g' y ⟨⟨h1, h2⟩, h3⟩ Dn
 clear Q LX
 have c0 := h2.cell 0 _ rfl
 have c1 := h2.cell 1 _ rfl
 have c2 := h2.cell 2 _ rfl
 replace hs := hid hs
 have hsz : b.size ≤ 9223372036854775807 := by have := hs.out; omega
 refine GW.known _ rfl (fun hd hf => ?_) ?_
 ·go_wp2
  exact ⟨rfl, rfl, Below.refl _ _⟩
 simp only [Act.put, setIfInBounds_toArray, set_cons_succ, set_cons_zero]
 refine GW.known _ rfl (fun hd hf => ?_) ?_
 ·go_wp2
  exact ⟨rfl, rfl, Below.refl _ _⟩
 simp only [Act.put, setIfInBounds_toArray, set_cons_succ, set_cons_zero]
 refine GW.open rfl (fun hd hf => ?_) ?_
 ·go_wp2_with fail
  refine (slAll_any a n cap y).mono ?_
  rintro e u ⟨rfl, hu⟩
  have hq : Below y.heap.size y u := by rw [← hu]; exact (Below.refl _ _).alloc (Nat.le_refl _) _
  have hN : Has u y.heap.size 76 #[.slice a n cap] := by rw [← hu]; exact Has.new _ _ _
  clear h3
  go_wp2_with fail
  exact ⟨rfl, ⟨h1.trans (hq.mono h1.size), h2.later hq⟩, fun _ => ⟨y.heap.size, rfl, hN⟩⟩
 simp only [Act.put, setIfInBounds_toArray, set_cons_succ, set_cons_zero]
 refine GW.known _ rfl (fun hd hf => ?_) ?_
 ·go_wp2
  exact ⟨rfl, rfl, Below.refl _ _⟩
 simp only [Act.put, setIfInBounds_toArray, set_cons_succ, set_cons_zero]
 refine GW.known _ rfl (fun hd hf => ?_) ?_
 ·go_wp2
  exact ⟨rfl, rfl, Below.refl _ _⟩
 simp only [Act.put, setIfInBounds_toArray, set_cons_succ, set_cons_zero]
 refine GW.known _ rfl (fun hd hf => ?_) ?_
 ·go_wp2
  exact ⟨rfl, rfl, Below.refl _ _⟩
 simp only [Act.put, setIfInBounds_toArray, set_cons_succ, set_cons_zero]
 refine GW.known _ rfl (fun hd hf => ?_) ?_
 ·obtain ⟨B, hg, hB⟩ := h3 (hd 2 (by decide))
  rw [hg]
  have HC := hid (HG.out y B h1 hB)
  clear h3
  go_wp2_with fail
  refine HC.out.mono ?_
  rintro e u ⟨rfl, hb⟩
  go_wp2
  exact ⟨rfl, rfl, hb⟩
 simp only [Act.put, setIfInBounds_toArray, set_cons_succ, set_cons_zero]
 refine GW.known _ rfl (fun hd hf => ?_) ?_
 ·go_wp2
  exact ⟨rfl, rfl, Below.refl _ _⟩
 simp only [Act.put, setIfInBounds_toArray, set_cons_succ, set_cons_zero]
 refine GW.nil (fun _ => ?_)
 clear h3
 go_wp2_with fail
 go_ret
 exact ⟨rfl, h1⟩
theorem encI_kid {t k : It} {d : Nat} (hr : RightI d t) (h : k ∈ t.kids) : (encI k).length ≤ (encI t).length := by
 rw [enc_held hr, List.length_append]
 unfold heldB
 rw [List.length_append]
 obtain ⟨j, hj⟩ := List.getElem?_of_mem h
 have h1 := encL_take t.kids j k hj
 have h2 := encL_part t.kids (j + 1)
 rw [h1, List.length_append] at h2
 omega
theorem right_kid {t k : It} {d : Nat} (hr : RightI d t) (h : k ∈ t.kids) : RightI (d - 1) k := by
 cases d with
 | zero => exact hr.elim
 | succ d => exact hr.2.2 k h
theorem size_step (t : It) (d : Nat) (hr : RightI d t) (hb : (encI t).length ≤ 2305843009213693952) (IH : ∀ k ∈ t.kids, SizeAt k) : SizeAt t := by
 intro v w ht
 obtain ⟨a, cap, rfl, hn, hs, hk⟩ := ht.open
 have he := enc_held hr
 have hel : (encI t).length = (headI t (heldB t).length).length + (heldB t).length := by rw [he, List.length_append]
 have Q := (Below.refl w.heap.size w).alloc (Nat.le_refl _) (.cells #[.bool t.list, .string t.bytes, .slice a t.kids.length cap] 78)
 have LX := Has.new w 78 #[.bool t.list, .string t.bytes, .slice a t.kids.length cap]
 obtain ⟨W1, hW1⟩ : ∃ W1, w.alloc (.cells #[.bool t.list, .string t.bytes, .slice a t.kids.length cap] 78) = W1 := ⟨_, rfl⟩
 rw [hW1] at LX Q
 have HH := hid (held_any t IH (by omega) _ W1 (ht.later Q))
 have HD := hid (fun W (hW : Below w.heap.size w W) => head_any t (heldB t).length (by omega) _ W (ht.later hW))
 rw [hel] at hb ⊢
 clear he hel hk IH ht hr
 have hsz : (⟨(headI t (heldB t).length).toArray⟩ : ByteArray).size = (headI t (heldB t).length).length := rfl
 unfold strV at HD
 generalize (⟨(headI t (heldB t).length).toArray⟩ : ByteArray) = hd at *
 generalize (headI t (heldB t).length).length = n1 at *
 generalize (heldB t).length = n2 at *
 generalize t.bytes = b at *
 generalize t.kids.length = n at *
 generalize t.list = l at *
 have c0 := LX.cell 0 _ rfl
 have c1 := LX.cell 1 _ rfl
 have c2 := LX.cell 2 _ rfl
 replace LX := hid LX
 replace Q := hid Q
 have hbI : (n1 : Int) + (n2 : Int) ≤ 2305843009213693952 := by omega
 have h1 : (0 : Int) ≤ (n1 : Int) := by omega
 have h2 : (0 : Int) ≤ (n2 : Int) := by omega
 have hcast := hid (Int.natCast_add n1 n2)
 clear hb
 go_enter Tryz.func65, Tryz.ntmps65
 go_wp2_with fail
 refine HH.out.mono ?_
 rintro _ W2 ⟨rfl, q⟩
 replace LX := hid (LX.out.later q)
 replace Q := hid (Q.out.trans (q.mono Q.out.size))
 clear q HH c0 c1 c2 hW1
 have c0 := LX.out.cell 0 _ rfl
 have c1 := LX.out.cell 1 _ rfl
 have c2 := LX.out.cell 2 _ rfl
 go_wp2_with fail
 refine (HD.out _ Q.out).mono ?_
 rintro _ W3 ⟨rfl, q⟩
 replace Q := hid (Q.out.trans (q.mono Q.out.size))
 clear q HD c0 c1 c2
 go_wp2_with fail
 go_ret
 exact ⟨by rw [hcast.out]; rfl, Q.out⟩
theorem size_any : ∀ (t : It) (d : Nat), RightI d t → (encI t).length ≤ 2305843009213693952 → SizeAt t := by
 refine It.induct ?_
 intro t ih d hr hb
 exact size_step t d hr hb (fun k hk => ih k hk (d - 1) (right_kid hr hk) (by have := encI_kid hr hk; omega))
theorem held_right (t : It) (d : Nat) (hr : RightI d t) (hb : (encI t).length ≤ 2305843009213693952) (v : Value) (w : World) (ht : ItemAt w t v) :
  Calls Tryz.prog 95 #[v] w fun e w' => e = .returned (.int .i64 (((heldB t).length : Nat) : Int)) ∧ Below w.heap.size w w' :=
 held_any t (fun k hk => size_any k (d - 1) (right_kid hr hk) (by have := encI_kid hr hk; omega)) (by have := enc_held hr; rw [this, List.length_append] at hb; omega) v w ht
def cellsB (l : List UInt8) : List Value := l.map fun b => Value.int .u8 b.toNat
theorem cellsB_append (a b : List UInt8) : cellsB (a ++ b) = cellsB a ++ cellsB b := by simp [cellsB]
theorem byteCells_list (l : List UInt8) : byteCells ⟨l.toArray⟩ = cellsB l := by simp [byteCells, cellsB]
theorem byteCells_str (s : ByteArray) : byteCells s = cellsB s.data.toList := rfl
def RowB (W : World) (base : Nat) (v : Value) (l : List UInt8) : Prop := W.ownsRow base 5 1 v l.length (cellsB l)
theorem RowB.later {A X : World} {base : Nat} {v : Value} {l : List UInt8} (h : RowB A base v l) (hb : Below A.heap.size A X) : RowB X base v l := owns_below h hb
def Newer (n : Nat) (v v' : Value) : Prop := v'.ownBlock = v.ownBlock ∨ ∀ b, v'.ownBlock = some b → n ≤ b
def preB (t : It) : List UInt8 := headI t (heldB t).length ++ t.bytes.data.toList
def BegunP (base : Nat) (v : Value) (l : List UInt8) (W : World) (e : Ending) (W' : World) : Prop :=
 ∃ v', e = .returned v' ∧ RowB W' base v' l ∧ W.grownBy W' v.ownBlock
theorem Has.row {A X : World} {B base : Nat} {t : TypeId} {cs : Array Value} (h : Has A B t cs) {v : Value} {l : List UInt8} (hr : RowB A base v l) (ht : t ≠ 5) (hg : A.grownBy X v.ownBlock) : Has X B t cs := by
 refine (hg.block B h.lt (fun e => ?_)).trans h
 rcases hr.2 with ⟨rfl, _⟩ | ⟨g, cap, cur, rfl, _, hg', _⟩
 ·simp [Value.ownBlock] at e
 ·simp [Value.ownBlock] at e
  subst e
  rw [show A.heap[B]? = _ from h] at hg'
  injection hg' with hg'
  injection hg' with _ hg' _
  exact ht hg'
theorem grown_newer {w A X : World} {v u : Value} (h : w.grownBy A v.ownBlock) (hn : Newer w.heap.size v u) (hg : A.grownBy X u.ownBlock) : w.grownBy X v.ownBlock :=
 ⟨hg.os.trans h.os, hg.tape.trans h.tape, hg.output.trans h.output, Nat.le_trans h.size hg.size, fun k hk hne => by
  refine (hg.block k (Nat.lt_of_lt_of_le hk h.size) (fun e => ?_)).trans (h.block k hk hne)
  rcases hn with h' | h'
  ·exact hne (e.trans h')
  ·have := h' k e.symm; omega⟩
theorem infoB_of : ∃ i, Tryz.prog.info? 5 = some i ∧ i.zero = some (.int .u8 0) ∧ i.size = 1 ∧ i.bytes = 1 := by
 have h := infoB
 rcases hi : Tryz.prog.info? 5 with _ | i
 ·rw [hi] at h; cases h
 ·rw [hi] at h
  injection h with h
  simp only [Prod.mk.injEq] at h
  exact ⟨i, rfl, h.1, h.2.1, h.2.2⟩
theorem begun_any (t : It) (d : Nat) (hr : RightI d t) (hsz : (encI t).length ≤ 2305843009213693952) (base : Nat) (v x : Value) (l : List UInt8) (w : World) (ht : ItemAt w t x) (hv : RowB w base v l) (hbase : base ≤ w.heap.size)
  (hb : l.length + (preB t).length ≤ 140737488355328) :
  Calls Tryz.prog 68 #[v, x] w (BegunP base v (l ++ preB t) w) := by
 have hmx : Tryz.prog.follows .mixedOrders = true := by kernel_rfl
 obtain ⟨a, cap, rfl, hn, hs, hk⟩ := ht.open
 have HH := hid (fun W (hW : Below w.heap.size w W) => held_right t d hr hsz _ W (ht.later hW))
 have HD := hid (fun W (hW : Below w.heap.size w W) => head_any t (heldB t).length (by have := enc_held hr; rw [this, List.length_append] at hsz; omega) _ W (ht.later hW))
 have hpre : l ++ preB t = (l ++ headI t (heldB t).length) ++ t.bytes.data.toList := by unfold preB; rw [List.append_assoc]
 have hpl : (preB t).length = (headI t (heldB t).length).length + t.bytes.data.toList.length := by unfold preB; rw [List.length_append]
 have hbs : t.bytes.data.toList.length = t.bytes.size := by simp
 rw [hpre]
 rw [hpl, hbs] at hb
 have Q := (Below.refl w.heap.size w).alloc (Nat.le_refl _) (.cells #[.bool t.list, .string t.bytes, .slice a t.kids.length cap] 78)
 have LX := Has.new w 78 #[.bool t.list, .string t.bytes, .slice a t.kids.length cap]
 clear ht hr hsz hk hpre hpl hbs hs hn
 generalize headI t (heldB t).length = hd at *
 generalize (heldB t).length = hn at *
 generalize t.bytes = b at *
 generalize t.kids.length = n at *
 generalize t.list = tl at *
 have hstr : (⟨hd.toArray⟩ : ByteArray).size = hd.length := rfl
 go_enter Tryz.func68, Tryz.ntmps68
 go_wp2_with fail
 obtain ⟨W1, hW1⟩ : ∃ W1, w.alloc (.cells #[.bool tl, .string b, .slice a n cap] 78) = W1 := ⟨_, rfl⟩
 rw [hW1] at Q LX ⊢
 clear hW1
 have hvI := hv.later Q
 refine wp_region_ghost [some v, some (.agg #[.bool tl, .string b, .slice a n cap]), some (.agg #[.bool tl, .string b, .slice a n cap]), some (.int .i64 (hn : Int)), some (strV hd), none, some (.pointer (some ⟨w.heap.size, 1, none⟩)), some (.string b), none, none]
  [[], [], [], [2], [1, 2, 3], [0, 1, 2, 3, 4], [], [6], [0, 1, 2, 3, 4, 5, 6, 7], [0, 1, 2, 3, 4, 5, 6, 7, 8]]
  (fun f g' y => ((w.grownBy y v.ownBlock ∧ base ≤ y.heap.size) ∧ Has y w.heap.size 78 #[.bool tl, .string b, .slice a n cap]) ∧ ((f 5 = false → Below w.heap.size w y ∧ RowB y base v l) ∧ (f 5 = true → f 8 = false → RowB y base (g' 5) (l ++ hd) ∧ Newer w.heap.size v (g' 5))) ∧ ((f 8 = true → RowB y base (g' 8) (l ++ hd ++ b.data.toList)) ∧ (f 9 = true → g' 9 = g' 8)))
  (by kernel_rfl) (by kernel_rfl) (by kernel_rfl) ?_ ?_ ?_ ?_
 ·rintro f g' wa wb ⟨⟨⟨h1, h2⟩, h3⟩, ⟨h4, h5⟩, h6, h7⟩ hb
  exact ⟨⟨⟨grown_then_below h1 hb, Nat.le_trans h2 hb.size⟩, h3.later hb⟩, ⟨fun e => ⟨(h4 e).1.trans (hb.mono (h4 e).1.size), (h4 e).2.later hb⟩, fun e e' => ⟨(h5 e e').1.later hb, (h5 e e').2⟩⟩, fun e => (h6 e).later hb, h7⟩
 ·intro f f' g1 g1' wa h
  have h5 := h 5 rfl
  have h8 := h 8 rfl
  have h9 := h 9 rfl
  rw [h5.1, h5.2, h8.1, h8.2, h9.1, h9.2]
  exact id
 ·exact ⟨⟨⟨grown_of_below Q.drew _, Nat.le_trans hbase Q.size⟩, LX⟩, ⟨fun _ => ⟨Q.drew, owns_below hvI (Below.refl _ _).drew⟩, fun e => by cases e⟩, (fun e => by cases e), fun e => by cases e⟩
 rintro f g' y ⟨⟨⟨h1, h2⟩, h3⟩, ⟨h4, h5⟩, h6, h7⟩ Dn
 clear Q LX hv hvI
 have c0 := h3.cell 0 _ rfl
 have c1 := h3.cell 1 _ rfl
 have c2 := h3.cell 2 _ rfl
 replace h4 := hid h4
 replace h5 := hid h5
 replace h6 := hid h6
 replace h7 := hid h7
 replace h1 := hid h1
 replace h3 := hid h3
 refine GW.known _ rfl (fun hd' hf => ?_) ?_
 ·go_wp2
  exact ⟨rfl, rfl, Below.refl _ _⟩
 simp only [Act.put, setIfInBounds_toArray, set_cons_succ, set_cons_zero]
 refine GW.known _ rfl (fun hd' hf => ?_) ?_
 ·go_wp2
  exact ⟨rfl, rfl, Below.refl _ _⟩
 simp only [Act.put, setIfInBounds_toArray, set_cons_succ, set_cons_zero]
 refine GW.known _ rfl (fun hd' hf => ?_) ?_
 ·go_wp2
  exact ⟨rfl, rfl, Below.refl _ _⟩
 simp only [Act.put, setIfInBounds_toArray, set_cons_succ, set_cons_zero]
 refine GW.known _ rfl (fun hd' hf => ?_) ?_
 ·have hf5 : f 5 = false := by
   rcases h : f 5 with _ | _
   ·rfl
   ·have := Dn 5 h 3 (by decide); rw [hf] at this; cases this
  have HC := hid (HH.out y (h4.out hf5).1)
  go_wp2_with fail
  refine HC.out.mono ?_
  rintro e u ⟨rfl, hq⟩
  go_wp2
  exact ⟨rfl, rfl, hq⟩
 simp only [Act.put, setIfInBounds_toArray, set_cons_succ, set_cons_zero]
 refine GW.known _ rfl (fun hd' hf => ?_) ?_
 ·have hf5 : f 5 = false := by
   rcases h : f 5 with _ | _
   ·rfl
   ·have := Dn 5 h 4 (by decide); rw [hf] at this; cases this
  have HC := hid (HD.out y (h4.out hf5).1)
  go_wp2_with fail
  refine HC.out.mono ?_
  rintro e u ⟨rfl, hq⟩
  go_wp2
  exact ⟨rfl, rfl, hq⟩
 simp only [Act.put, setIfInBounds_toArray, set_cons_succ, set_cons_zero]
 refine GW.open rfl (fun hd' hf => ?_) ?_
 ·obtain ⟨hB, hR⟩ := h4.out hf
  have hf8 : f 8 = false := by
   rcases h : f 8 with _ | _
   ·rfl
   ·have := Dn 8 h 5 (by decide); rw [hf] at this; cases this
  have hf9 : f 9 = false := by
   rcases h : f 9 with _ | _
   ·rfl
   ·have := Dn 9 h 5 (by decide); rw [hf] at this; cases this
  obtain ⟨i, hi, hz, hsize, hby⟩ := infoB_of
  refine wpList_append_str y rfl (.tmp 5) (.tmp 9) 97 9 rfl base 5 i (.int .u8 0) Tryz.underlying97 Tryz.underlying9 hi hz hsize hby rfl v l.length (cellsB l) rfl hR ⟨hd.toArray⟩ rfl (by rw [hstr]; omega) h2 ?_
  intro v' w' k1 k2 k3
  have hrow : RowB w' base v' (l ++ hd) := by
   unfold RowB
   rw [List.length_append, cellsB_append, ← byteCells_list, ← hstr]
   exact k1
  have hnew : Newer w.heap.size v v' := by
   rcases k3 with h | h
   ·exact .inl h
   ·exact .inr (fun b hb' => by rw [h] at hb'; injection hb' with hb'; have := h1.out.size; omega)
  refine ⟨rfl, ⟨⟨⟨grown_newer (grown_of_below hB _) (.inl rfl) k2, Nat.le_trans h2 k2.size⟩, h3.out.row hR (by decide) k2⟩, ⟨fun e => absurd (show true = false from e) (by decide), fun _ _ => ⟨hrow, hnew⟩⟩, fun e => absurd ((show f 8 = true from e).symm.trans hf8) (by decide), fun e => absurd ((show f 9 = true from e).symm.trans hf9) (by decide)⟩⟩
 simp only [Act.put, setIfInBounds_toArray, set_cons_succ, set_cons_zero]
 refine GW.known _ rfl (fun hd' hf => ?_) ?_
 ·go_wp2
  exact ⟨rfl, rfl, Below.refl _ _⟩
 simp only [Act.put, setIfInBounds_toArray, set_cons_succ, set_cons_zero]
 refine GW.known _ rfl (fun hd' hf => ?_) ?_
 ·go_wp2
  exact ⟨rfl, rfl, Below.refl _ _⟩
 simp only [Act.put, setIfInBounds_toArray, set_cons_succ, set_cons_zero]
 refine GW.open rfl (fun hd' hf => ?_) ?_
 ·obtain ⟨hR, hN⟩ := h5.out (hd' 5 (by decide)) hf
  have hf9 : f 9 = false := by
   rcases h : f 9 with _ | _
   ·rfl
   ·have := Dn 9 h 8 (by decide); rw [hf] at this; cases this
  obtain ⟨i, hi, hz, hsize, hby⟩ := infoB_of
  refine wpList_append_str y rfl (.tmp 10) (.tmp 12) 97 9 rfl base 5 i (.int .u8 0) Tryz.underlying97 Tryz.underlying9 hi hz hsize hby rfl (g' 5) (l ++ hd).length (cellsB (l ++ hd)) rfl hR b rfl (by rw [List.length_append]; omega) h2 ?_
  intro v' w' k1 k2 k3
  have hrow : RowB w' base v' (l ++ hd ++ b.data.toList) := by
   unfold RowB
   rw [List.length_append (bs := b.data.toList), cellsB_append _ b.data.toList, ← byteCells_str, show b.data.toList.length = b.size by simp]
   exact k1
  refine ⟨rfl, ⟨⟨⟨grown_newer h1.out hN k2, Nat.le_trans h2 k2.size⟩, h3.out.row hR (by decide) k2⟩, ⟨fun e => absurd ((show f 5 = false from e).symm.trans (hd' 5 (by decide))) (by decide), fun _ e => absurd (show true = false from e) (by decide)⟩, fun _ => hrow, fun e => absurd ((show f 9 = true from e).symm.trans hf9) (by decide)⟩⟩
 simp only [Act.put, setIfInBounds_toArray, set_cons_succ, set_cons_zero]
 refine GW.open rfl (fun hd' hf => ?_) ?_
 ·have k8 := h6.out (hd' 8 (by decide))
  have f5 : f 5 = true := hd' 5 (by decide)
  have f8 : f 8 = true := hd' 8 (by decide)
  clear c0 c1 c2
  have HU := hid (And.intro f5 f8)
  clear f5 f8
  replace k8 := hid k8
  go_wp2
  exact ⟨rfl, ⟨⟨h1.out, h2⟩, h3.out⟩, ⟨fun e => absurd ((show f 5 = false from e).symm.trans HU.out.1) (by decide), fun _ e => absurd ((show f 8 = false from e).symm.trans HU.out.2) (by decide)⟩, fun _ => k8.out, fun _ => rfl⟩
 simp only [Act.put, setIfInBounds_toArray, set_cons_succ, set_cons_zero]
 refine GW.nil (fun hall => ?_)
 have k8 := h6.out (hall 8 (by decide))
 have k9 := h7.out (hall 9 (by decide))
 have k1 := h1.out
 rw [k9]
 clear h4 h5 h6 h7 h1 k9 c0 c1 c2 hall Dn
 have K := hid (show BegunP base v (l ++ hd ++ b.data.toList) w (.returned (g' 8)) y from ⟨_, rfl, k8, k1⟩)
 generalize g' 8 = g8 at *
 generalize g' 5 = g5 at *
 clear k8 k1
 go_wp2_with fail
 go_ret
 exact K.out
theorem enc_pre {d : Nat} {t : It} (h : RightI d t) : encI t = preB t ++ encL t.kids := by
 rw [enc_held h]
 unfold preB heldB
 rw [List.append_assoc]
theorem pre_enc : ∀ (t : It) (e d : Nat), RightI e t → (preI d t).flatMap (fun p => preB p.2) = encI t := by
 refine It.induct ?_
 intro t ih e d hr
 rw [preI_eq, List.flatMap_cons, enc_pre hr]
 congr 1
 have : ∀ (ks : List It), (∀ k ∈ ks, k ∈ t.kids) → (preL (d + 1) ks).flatMap (fun p => preB p.2) = encL ks := by
  intro ks
  induction ks with
  | nil => intro _; simp [preL, encL]
  | cons k ks ih2 =>
   intro hm
   rw [preL, encL, List.flatMap_append, ih k (hm k (by simp)) (e - 1) (d + 1) (right_kid hr (hm k (by simp))), ih2 (fun y hy => hm y (by simp [hy]))]
 exact this t.kids (fun _ h => h)
theorem pre_in : ∀ (t : It) (e d : Nat), RightI e t → ∀ p ∈ preI d t, ∃ e', RightI e' p.2 ∧ (encI p.2).length ≤ (encI t).length := by
 refine It.induct ?_
 intro t ih e d hr p hp
 rw [preI_eq] at hp
 rcases List.mem_cons.1 hp with rfl | hp
 ·exact ⟨e, hr, Nat.le_refl _⟩
 ·have : ∀ (ks : List It), (∀ k ∈ ks, k ∈ t.kids) → p ∈ preL (d + 1) ks → ∃ k ∈ t.kids, p ∈ preI (d + 1) k := by
   intro ks
   induction ks with
   | nil => intro _ h; simp [preL] at h
   | cons k ks ih2 =>
    intro hm h
    rw [preL] at h
    rcases List.mem_append.1 h with h | h
    ·exact ⟨k, hm k (by simp), h⟩
    ·exact ih2 (fun y hy => hm y (by simp [hy])) h
  obtain ⟨k, hk, hpk⟩ := this t.kids (fun _ h => h) hp
  obtain ⟨e', h1, h2⟩ := ih k hk (e - 1) (d + 1) (right_kid hr hk) p hpk
  exact ⟨e', h1, Nat.le_trans h2 (encI_kid hr hk)⟩
def preE (t : It) (k : Nat) : List UInt8 := ((preI 0 t).take k).flatMap (fun p => preB p.2)
theorem preE_succ {t : It} {k : Nat} {p : Nat × It} (h : (preI 0 t)[k]? = some p) : preE t (k + 1) = preE t k ++ preB p.2 := by
 unfold preE
 obtain ⟨hl, he⟩ := List.getElem?_eq_some_iff.1 h
 rw [List.take_succ_eq_append_getElem hl, List.flatMap_append, he]
 simp
theorem preE_part (t : It) (k : Nat) : (preE t k).length ≤ ((preI 0 t).flatMap (fun p => preB p.2)).length := by
 have h := List.take_append_drop k (preI 0 t)
 have h2 : (preI 0 t).flatMap (fun p => preB p.2) = preE t k ++ ((preI 0 t).drop k).flatMap (fun p => preB p.2) := by
  unfold preE
  rw [← List.flatMap_append, h]
 rw [h2, List.length_append]
 omega
theorem preE_all {t : It} {e : Nat} (hr : RightI e t) : preE t (countI t) = encI t := by
 unfold preE
 rw [List.take_of_length_le (by rw [preI_length]; omega), pre_enc t e 0 hr]
theorem RowB.ownR {A X : World} {row : Option Nat} {base : Nat} {v : Value} {l : List UInt8} (h : RowB A base v l) (hg : A.grownBy X row) (hr : ∀ r, row = some r → ∃ o : Obj, A.heap[r]? = some o ∧ o.isCells = false) : RowB X base v l := by
 refine World.ownsRow.kept h hg ?_
 rcases h.2 with ⟨rfl, _⟩ | ⟨g, cap, cur, rfl, _, hg', _⟩
 ·exact .inl rfl
 ·refine .inr (fun e => ?_)
  obtain ⟨o, ho, hc⟩ := hr g e.symm
  rw [hg'] at ho
  cases ho
  cases hc
theorem RowB.block {A : World} {base : Nat} {v : Value} {l : List UInt8} (h : RowB A base v l) {b : Nat} (hb : v.ownBlock = some b) : base ≤ b ∧ ∃ cs, A.heap[b]? = some (.cells cs 5 (0, 0)) := by
 rcases h.2 with ⟨rfl, _⟩ | ⟨g, cap, cur, rfl, hbg, hg', _⟩
 ·cases hb
 ·injection hb with hb
  subst hb
  exact ⟨hbg, cur, hg'⟩
theorem RowB.shape {A : World} {base : Nat} {v : Value} {l : List UInt8} (h : RowB A base v l) : ∃ a n c, v = .slice a n c := by
 rcases h.2 with ⟨rfl, _⟩ | ⟨g, cap, cur, rfl, _, _, _⟩
 ·exact ⟨none, 0, 0, rfl⟩
 ·exact ⟨_, _, _, rfl⟩
theorem kd_row {A X : World} {n base : Nat} {v : Value} {l : List UInt8} (h : RowB A base v l) (hg : A.grownBy X v.ownBlock) (hn : n ≤ base) (hnA : n ≤ A.heap.size) : Kd n A X :=
 ⟨⟨hg.os, hg.tape, hg.output, hg.size, fun k hk => hg.block k (by omega) (fun e => by have := (h.block e.symm).1; omega)⟩, fun b cs m hb hA => (hg.block b (Array.getElem?_eq_some_iff.1 hA).1 (fun e => by
  obtain ⟨_, cs', h'⟩ := h.block e.symm
  rw [hA] at h'
  injection h' with h'
  injection h' with _ h' _
  exact absurd h' (by decide))).trans hA⟩
theorem keeps_row {A X : World} {n base : Nat} {v : Value} {l : List UInt8} (h : RowB A base v l) (hg : A.grownBy X v.ownBlock) : KeepsFrom n A X :=
 ⟨hg.size, fun k o _ ho hc => (hg.block k (Array.getElem?_eq_some_iff.1 ho).1 (fun e => by
  obtain ⟨_, cs', h'⟩ := h.block e.symm
  rw [ho] at h'
  cases h'
  cases hc)).trans ho⟩
def GathSt (w : World) (t : It) (k : Nat) (W : World) : Prop :=
 (∃ v, Has W w.heap.size 97 #[v] ∧ RowB W w.heap.size v (preE t k)) ∧ Has W (w.heap.size + 1) 102 #[.func (.func 68) #[] #[]] ∧ Below w.heap.size w W
theorem GathSt.later {w : World} {t : It} {k : Nat} {A X : World} (h : GathSt w t k A) (hb : Below A.heap.size A X) : GathSt w t k X := by
 obtain ⟨⟨v, h1, h2⟩, h3, h4⟩ := h
 exact ⟨⟨v, h1.later hb, h2.later hb⟩, h3.later hb, h4.trans (hb.mono h4.size)⟩
theorem GathSt.own {w : World} {t : It} {n : Nat} (hn : w.heap.size ≤ n) : OwnFrom n (fun k W => GathSt w t k W) := fun k A X row hs hg hr => by
 obtain ⟨⟨v, h1, h2⟩, h3, h4⟩ := hs
 exact ⟨⟨v, h1.ownR hg (fun r e => (hr r e).2), h2.ownR hg (fun r e => (hr r e).2)⟩, h3.ownR hg (fun r e => (hr r e).2), below_ownR h4 hg hn (fun r e => (hr r e).1)⟩
def GathP (w : World) (t : It) (e : Ending) (W' : World) : Prop := ∃ v, e = .returned v ∧ RowB W' w.heap.size v (encI t) ∧ Below w.heap.size w W'
theorem gatherB_any (t : It) (d : Nat) (hr : RightI d t) (hc : countI t ≤ 1099511627776) (hsz : (encI t).length ≤ 140737488355328) (l : Bool) (b : ByteArray) (a : Option Addr) (kn cap Bx : Nat) (w0 w : World) (ht : ItemAt w0 t (.agg #[.bool l, .string b, .slice a kn cap])) (hB : Below w0.heap.size w0 w)
  (hX : Has w Bx 78 #[.bool l, .string b, .slice a kn cap]) :
  Calls Tryz.prog 66 #[.func (.func 97) #[] #[.pointer (some ⟨Bx, 0, none⟩)], .slice none 0 0, .func (.func 68) #[] #[]] w (GathP w t) := by
 have hmx : Tryz.prog.follows .mixedOrders = true := by kernel_rfl
 have HT := hid ht
 have HBB := hid hB
 have HR := hid hr
 have HCC := hid hc
 have HSZ := hid hsz
 clear ht hB hr hc hsz
 refine (callsIn_wide (n := 8)).1 ?_
 refine callsIn_of_wp_marks Tryz.func66 rfl trivial ?_ rfl
 simp only [Tryz.ntmps66, List.size_toArray, List.length_cons, List.length_nil, Nat.reduceAdd, Nat.reduceSub, Array.replicate_succ, Array.replicate_zero, List.push_toArray, List.append_toArray, List.nil_append, List.cons_append]
 have LS := (Has.new w 97 #[.slice none 0 0]).alloc (.cells #[.func (.func 68) #[] #[]] 102)
 have LF := Has.new (w.alloc (.cells #[.slice none 0 0] 97)) 102 #[.func (.func 68) #[] #[]]
 simp only [World.size_alloc] at LF
 have LX := (hX.alloc (.cells #[.slice none 0 0] 97)).alloc (.cells #[.func (.func 68) #[] #[]] 102)
 have Q := ((Below.refl w.heap.size w).alloc (Nat.le_refl _) (.cells #[.slice none 0 0] 97)).alloc (by simp) (.cells #[.func (.func 68) #[] #[]] 102)
 have hs2 : ((w.alloc (.cells #[.slice none 0 0] 97)).alloc (.cells #[.func (.func 68) #[] #[]] 102)).heap.size = w.heap.size + 2 := by simp
 replace LS := hid LS
 replace LF := hid LF
 replace LX := hid LX
 replace Q := hid Q
 replace hs2 := hid hs2
 clear hX
 gi_wp2_with fail
 generalize (w.alloc (.cells #[.slice none 0 0] 97)).alloc (.cells #[.func (.func 68) #[] #[]] 102) = W2 at *
 refine wpIn_rangeFunc_C rfl (by omega) (gf := 97) (lb := #[.pointer (some ⟨Bx, 0, none⟩)]) rfl trivial (enters_of Tryz.func97 (by kernel_rfl) rfl)
  (all_seq _ t l b a kn cap Bx w0 W2 HT.out (HBB.out.trans (Q.out.mono HBB.out.size)) LX.out HCC.out) GrR.keeps Kd.trans (fun W l o o' hl h1 h2 _ => Kd.put W l o o' (by have := hs2.out; have := HBB.out.size; omega) h1 h2) (fun k args W _ hE => by obtain ⟨d', x, v', _, e, _⟩ := hE; rw [e]; rfl)
  (fun k W => GathSt w t k W) (fun _ _ _ => False) (GathSt.own (by have := hs2.out; omega)) (fun c k A X row hs hg hr => hs)
  (fun s V X hs hb => hs.later hb) (fun c s V X hs hb => hs) ⟨⟨_, LS.out, by unfold preE; simp only [List.take_zero, List.flatMap_nil]; exact World.ownsRow_nil _ _ _ _⟩, LF.out, Q.out⟩
  (fun k a' V => ∃ d' x l1 b1 a1 n1 cap1 bx, (preI 0 t)[k]? = some (d', x) ∧ ItemAt w0 x (.agg #[.bool l1, .string b1, .slice a1 n1 cap1]) ∧ Has V bx 78 #[.bool l1, .string b1, .slice a1 n1 cap1] ∧
   a' = { tmps := #[.func (.func 97) #[] #[.pointer (some ⟨Bx, 0, none⟩)], .slice none 0 0, .func (.func 68) #[] #[], undef, .pointer (some ⟨w.heap.size, 0, none⟩), .pointer (some ⟨w.heap.size + 1, 0, none⟩), .slice none 0 0, undef, .pointer (some ⟨bx, 0, none⟩), .func (.func 97) #[] #[.pointer (some ⟨Bx, 0, none⟩)], .int .i64 ((d' : Nat) : Int), .agg #[.bool l1, .string b1, .slice a1 n1 cap1], undef, undef, undef, undef, undef], defers := [] })
  (fun k a' _ X Y row hs hg hr => by
   obtain ⟨d', x, l1, b1, a1, n1, cap1, bx, h1, h2, h3, e⟩ := hs
   exact ⟨d', x, l1, b1, a1, n1, cap1, bx, h1, h2, h3.ownR hg (fun r e => (hr r e).2), e⟩) ?assign ?body ?done ?stop
 case assign =>
  intro ll k args W K hll hkN hst hE hK
  obtain ⟨d', x, v', h1, rfl, h3⟩ := hE
  obtain ⟨a1, cap1, rfl, _, _, _⟩ := h3.open
  have HST := hid hst
  have HK := hid hK
  have H3 := hid h3
  have H1 := hid h1
  clear hst hkN hK h3 h1
  have NX := Has.new W 78 #[.bool false, .string ⟨#[]⟩, .slice none 0 0]
  have x0 := NX.cell 0 _ rfl
  have x1 := NX.cell 1 _ rfl
  have x2 := NX.cell 2 _ rfl
  have f0 := NX.frozen 0
  have f1 := NX.frozen 1
  have f2 := NX.frozen 2
  replace NX := hid NX
  generalize x.list = l1 at *
  generalize x.bytes = b1 at *
  generalize x.kids.length = n1 at *
  gi_wp2_with fail
  have hg := (Below.refl W.heap.size W).alloc (Nat.le_refl _) (.cells #[.bool l1, .string b1, .slice a1 n1 cap1] 78)
  exact HK.out _ _ ((KeepsOthers.alloc _ _).from _) (Kd.grow hg (Nat.le_trans HBB.out.size HST.out.2.2.size)) (HST.out.later hg) ⟨d', x, l1, b1, a1, n1, cap1, W.heap.size, H1.out, H3.out, Has.new _ _ _, rfl⟩
 case body =>
  rintro ll k a' W hl hlo hkN hst ⟨d', x, l1, b1, a1, n1, cap1, bx, h1, h2, h3, rfl⟩
  obtain ⟨⟨v, s1, s2⟩, s3, s4⟩ := hst
  obtain ⟨e', hre, hle⟩ := pre_in t d 0 HR.out (d', x) (List.mem_of_getElem? h1)
  have hsu := preE_succ h1
  have hpt := preE_part t (k + 1)
  rw [pre_enc t d 0 HR.out, hsu, List.length_append] at hpt
  have hbb := HSZ.out
  have e0 := h3.cell 0 _ rfl
  have e1 := h3.cell 1 _ rfl
  have e2 := h3.cell 2 _ rfl
  have cS := s1.cell 0 _ rfl
  have cF := s3.cell 0 _ rfl
  have HC := hid (begun_any x e' hre (by simp only at hle; omega) w.heap.size v (.agg #[.bool l1, .string b1, .slice a1 n1 cap1]) (preE t k) W (h2.later (HBB.out.trans (s4.mono HBB.out.size))) s2 s4.size (by simp only at hpt; omega))
  have hnx := hid (show preE t k ++ preB x = preE t (k + 1) from hsu.symm)
  have S1 := hid s1
  have S2 := hid s2
  have S3 := hid s3
  have S4 := hid s4
  clear h1 h2 h3 s1 s2 s3 s4 hsu hpt hbb hl hlo hkN hle hre
  gi_wp2_with fail
  refine (callsIn_free (free_round ll) HC.out).mono ?_
  rintro _ W3 ⟨v3, rfl, hrow, hgr⟩
  rw [hnx.out] at hrow
  obtain ⟨va, vn, vc, rfl⟩ := hrow.shape
  have LS3 := S1.out.row S2.out (by decide) hgr
  have LF3 := S3.out.row S2.out (by decide) hgr
  have kd3 := kd_row (n := w.heap.size) S2.out hgr (Nat.le_refl _) S4.out.size
  have Q3 := S4.out.trans kd3.1
  have c3 := LS3.cell 0 _ rfl
  have f3 := LS3.frozen 0
  have KE := hid ((keeps_row (n := W2.heap.size) S2.out hgr).trans ((KeepsOthers.setCell W3 ⟨w.heap.size, 0, none⟩ (.slice va vn vc)).from W2.heap.size))
  have KD := hid ((kd_row (n := w0.heap.size) S2.out hgr HBB.out.size (Nat.le_trans HBB.out.size S4.out.size)).trans (Kd.set (n := w0.heap.size) LS3 (by decide) HBB.out.size 0 (.slice va vn vc)))
  have ST := hid (show GathSt w t (k + 1) (W3.setCell ⟨w.heap.size, 0, none⟩ (.slice va vn vc)) from ⟨⟨_, LS3.set 0 _, by
   refine World.ownsRow.kept hrow (row := some w.heap.size) ?_ ?_
   ·exact ⟨rfl, rfl, rfl, by simp [World.setCell], fun k _ hne => Below.heap_setCell W3 ⟨w.heap.size, 0, none⟩ (.slice va vn vc) k (fun e => hne (by rw [e]))⟩
   ·refine .inr (fun e => ?_)
    obtain ⟨_, cs, hcs⟩ := hrow.block e
    rw [show W3.heap[w.heap.size]? = _ from LS3] at hcs
    injection hcs with hcs
    injection hcs with _ hcs _
    exact absurd hcs (by decide)⟩, LF3.other (by simp) _, Q3.setCell (by simp) _⟩)
  have hv3 := hid hrow
  clear hrow hgr LS3 LF3 Q3 kd3 HC hnx S1 S2 S3 S4 e0 e1 e2 cS cF
  gi_wp2_with fail
  exact ⟨KE.out, KD.out, ST.out⟩
 case done =>
  rintro D W hD hst hK
  obtain ⟨⟨v, s1, s2⟩, s3, s4⟩ := hst
  have cS := s1.cell 0 _ rfl
  rw [preE_all HR.out] at s2
  have Q3 := show Below w.heap.size w (W.putObj D (.deferred none)) from s4.trans ⟨rfl, rfl, rfl, by simp, fun k hk => World.putObj_heap_other (by have := hs2.out; omega)⟩
  have R3 : RowB (W.putObj D (.deferred none)) w.heap.size v (encI t) := RowB.ownR s2 (grownBy_putObj' W D (.deferred none)) (fun r e => by injection e with e; subst e; exact ⟨_, hK, rfl⟩)
  have K := hid (show GathP w t (.returned v) (W.putObj D (.deferred none)) from ⟨v, rfl, R3, Q3⟩)
  replace hK := hid hK
  clear s1 s2 s3 s4 Q3 R3
  gi_wp2_with fail
  refine ⟨by simp, .inl ⟨_, _, rfl, run_takeDeferred hK.out, ?_⟩⟩
  exact ⟨v, by simp [results, Tryz.results66, go_sem], K.out⟩
 case stop =>
  rintro D c k W hD hk h hK
  exact h.elim
theorem strOf_list (l : List UInt8) : strOfNums (l.map fun b => (b.toNat : Int)) = ⟨l.toArray⟩ := by
 simp [strOfNums, Function.comp_def]
theorem conv_row {W : World} {base : Nat} {v : Value} {l : List UInt8} (h : RowB W base v l) : (convert 97 9 v).run Tryz.prog W = .ok (strV l) W := by
 rcases h.2 with ⟨rfl, h0⟩ | ⟨g, cap, cur, rfl, hbg, hg, hnc, hcm, hcs, htake⟩
 ·have hl : l = [] := List.eq_nil_of_length_eq_zero h0
  subst hl
  exact run_convert_bytes_nil (P := Tryz.prog) W 97 5 Tryz.underlying97 Tryz.underlying5 0 0 9 Tryz.underlying9
 ·have := run_convert_bytes_arg (P := Tryz.prog) W 97 5 Tryz.underlying97 Tryz.underlying5 g 0 l.length cap (l.map fun b => (b.toNat : Int)) (by simp) (fun i hi => by
   have := World.ownsRow.cells h (g := g) rfl i (.int .u8 ((l.map fun b => (b.toNat : Int)).getD i 0)) (by
    unfold cellsB
    rw [List.getElem?_map, List.getElem?_eq_getElem hi]
    simp [List.getD, List.getElem?_eq_getElem hi])
   rw [Nat.zero_add]
   have ha : (⟨g, 0, none⟩ : Addr).add i = ⟨g, i, none⟩ := by unfold Addr.add; split <;> simp_all
   rw [ha] at this
   exact this) 9 Tryz.underlying9
  rw [strOf_list] at this
  exact this
noncomputable def encE (t : It) : Nat := if okI t = true then (if (encI t).length ≤ 1048576 then 0 else 2) else 1
noncomputable def encS (t : It) : List UInt8 := if encE t = 0 then encI t else []
theorem encE_bad {t : It} (h : okI t = false) : encE t = 1 := by unfold encE; rw [if_neg (by rw [h]; decide)]
theorem encE_long {t : It} (h : okI t = true) (hl : ¬ (encI t).length ≤ 1048576) : encE t = 2 := by unfold encE; rw [if_pos h, if_neg hl]
theorem encE_good {t : It} (h : okI t = true) (hl : (encI t).length ≤ 1048576) : encE t = 0 := by unfold encE; rw [if_pos h, if_pos hl]
theorem encS_good {t : It} (h : encE t = 0) : encS t = encI t := if_pos h
theorem encS_bad {t : It} (h : encE t ≠ 0) : encS t = [] := if_neg h
theorem okI_right {t : It} (h : okI t = true) : countI t ≤ 5000 ∧ RightI 16 t := by
 unfold okI at h
 rw [Bool.and_eq_true, decide_eq_true_eq, rightB_iff] at h
 exact h
theorem encode_any (t : It) (hc : countI t ≤ 1099511627776) (hsz : (encI t).length ≤ 2305843009213693952) (v : Value) (w : World) (ht : ItemAt w t v) :
  Calls Tryz.prog 45 #[v] w fun e w' => e = .returned (.tuple #[strV (encS t), .int .i64 (encE t : Int)]) ∧ Below w.heap.size w w' := by
 have hmx : Tryz.prog.follows .mixedOrders = true := by kernel_rfl
 obtain ⟨a, cap, rfl, hn, hs, hk⟩ := ht.open
 clear hk hs hn
 have HT := hid ht
 have HRT := hid (fun W (hW : Below w.heap.size w W) => right_any t _ W (ht.later hW) hc)
 have HSZ := hid (fun d (hr : RightI d t) W (hW : Below w.heap.size w W) => size_any t d hr hsz _ W (ht.later hW))
 have HGA := hid (fun (hl : (encI t).length ≤ 1048576) d (hr : RightI d t) (W : World) (hW : Below w.heap.size w W) Bx hX => gatherB_any t d hr hc (by omega) t.list t.bytes a t.kids.length cap Bx w W ht hW hX)
 have HAL := hid (all_any (.bool t.list) (.string t.bytes) (.slice a t.kids.length cap))
 have Q := (Below.refl w.heap.size w).alloc (Nat.le_refl _) (.cells #[.bool t.list, .string t.bytes, .slice a t.kids.length cap] 78)
 have LX := Has.new w 78 #[.bool t.list, .string t.bytes, .slice a t.kids.length cap]
 clear ht hc hsz
 generalize t.bytes = b at *
 generalize t.kids.length = n at *
 generalize t.list = tl at *
 obtain ⟨W1, hW1⟩ : ∃ W1, w.alloc (.cells #[.bool tl, .string b, .slice a n cap] 78) = W1 := ⟨_, rfl⟩
 rw [hW1] at Q LX
 have c0 := LX.cell 0 _ rfl
 have c1 := LX.cell 1 _ rfl
 have c2 := LX.cell 2 _ rfl
 replace LX := hid LX
 replace Q := hid Q
 go_enter Tryz.func45, Tryz.ntmps45
 go_wp2_with fail
 refine (HRT.out _ Q.out).mono ?_
 rintro _ W2 ⟨rfl, q⟩
 replace LX := hid (LX.out.later q)
 replace Q := hid (Q.out.trans (q.mono Q.out.size))
 clear q c0 c1 c2 hW1 HRT
 have c0 := LX.out.cell 0 _ rfl
 have c1 := LX.out.cell 1 _ rfl
 have c2 := LX.out.cell 2 _ rfl
 rcases hok : okI t with _ | _
 ·have hE := hid (encE_bad hok)
  have hS := hid (encS_bad (t := t) (by rw [encE_bad hok]; decide))
  replace hok := hid hok
  go_wp2_with fail
  go_ret2
  exact ⟨by rw [hE.out, hS.out]; rfl, Q.out⟩
 ·obtain ⟨_, hr⟩ := okI_right hok
  have hokH := hid hok
  have HC := hid (HSZ.out 16 hr _ Q.out)
  have hL0 : (0 : Int) ≤ (((encI t).length : Nat) : Int) := Int.natCast_nonneg _
  have HRR := hid hr
  clear hok hr HSZ
  go_wp2_with fail
  refine HC.out.mono ?_
  rintro _ W3 ⟨rfl, q⟩
  replace LX := hid (LX.out.later q)
  replace Q := hid (Q.out.trans (q.mono Q.out.size))
  clear q c0 c1 c2 HC
  have c0 := LX.out.cell 0 _ rfl
  have c1 := LX.out.cell 1 _ rfl
  have c2 := LX.out.cell 2 _ rfl
  by_cases hl : (encI t).length ≤ 1048576
  ·have hE := hid (encE_good hokH.out hl)
   have hS := hid (encS_good (encE_good hokH.out hl))
   have HG := hid (HGA.out hl 16 HRR.out)
   have hlI : (((encI t).length : Nat) : Int) ≤ 1048576 := by omega
   have hb1 : decide (1048576 < (((encI t).length : Nat) : Int)) = false := by simpa using hlI
   replace hl := hid hl
   generalize (encI t).length = L at *
   go_wp2_with fail
   refine (HAL.out _).mono ?_
   rintro _ W4 ⟨rfl, hW4⟩
   have q4 : Below W3.heap.size W3 W4 := by rw [← hW4]; exact (Below.refl _ _).alloc (Nat.le_refl _) _
   have LX4 : Has W4 W3.heap.size 78 #[.bool tl, .string b, .slice a n cap] := by rw [← hW4]; exact Has.new _ _ _
   have Q4 := Q.out.trans (q4.mono Q.out.size)
   have HC := hid (HG.out W4 Q4 _ LX4)
   replace Q4 := hid Q4
   clear hW4 q4 LX4 HG HGA HAL c0 c1 c2
   go_wp2_with fail
   refine HC.out.mono ?_
   rintro _ W5 ⟨v5, rfl, hrow, hb5⟩
   have hcv := conv_row hrow
   have Q5 := hid (Q4.out.trans (hb5.mono Q4.out.size))
   rw [← hS.out] at hcv
   clear hrow hb5 HC
   go_wp2_with fail
   go_ret2
   exact ⟨by rw [hE.out]; rfl, Q5.out⟩
  ·have hE := hid (encE_long hokH.out hl)
   have hS := hid (encS_bad (t := t) (by rw [encE_long hokH.out hl]; decide))
   have hb1 : decide (1048576 < (((encI t).length : Nat) : Int)) = true := decide_eq_true (by omega)
   replace hl := hid hl
   generalize (encI t).length = L at *
   go_wp2_with fail
   go_ret2
   exact ⟨by rw [hE.out, hS.out]; rfl, Q.out⟩
end Go.Proofs.YtkicmbdjihjgfaaGreatDoor
