/- Right: whether an item is right. Conditions: the item lies in memory, and holds no more than 2^40 items. -/
import Derived.Test.YtkicmbdjihjgfaaGreatDoorG22
import Derived.Test.YtkicmbdjihjgfaaGreatDoorG04
import Derived.Deep.OwnRows
import Derived.Laws.BytesArg
import Derived.Lib.Mul64
import Derived.Shelf.Bits.Mul64
import Derived.Laws.MakeOwn
import Derived.Laws.AppendOwn
import Derived.OwnWalk
import Derived.WalkSmall
import Derived.Lib.TrimByte
import Derived.Lib.Strings
set_option maxRecDepth 100000
set_option maxHeartbeats 16000000
open List (setIfInBounds_toArray set_cons_succ set_cons_zero)
namespace Go.Proofs.YtkicmbdjihjgfaaGreatDoor
open Go Go.RowKit
attribute [local go_sem] Oper.semAt_some Grows wide_fn
theorem RightSt.later {w : World} {t : It} {Bm Br k : Nat} {A X : World} (h : RightSt w t Bm Br k A) (hb : Below A.heap.size A X) : RightSt w t Bm Br k X :=
 ⟨⟨h.1.1.later hb, h.1.2.later hb⟩, h.2.1.trans (hb.mono h.2.1.size), h.2.2.1, h.2.2.2⟩
theorem Has.ownR {A X : World} {row : Option Nat} {B : Nat} {t : TypeId} {cs : Array Value} (h : Has A B t cs) (hg : A.grownBy X row) (hr : ∀ r, row = some r → ∃ o : Obj, A.heap[r]? = some o ∧ o.isCells = false) : Has X B t cs := by
 refine (hg.block B h.lt (fun e => ?_)).trans h
 obtain ⟨o, ho, hc⟩ := hr B e.symm
 rw [show A.heap[B]? = _ from h] at ho
 cases ho
 cases hc
theorem below_ownR {w A X : World} {row : Option Nat} {n : Nat} (h : Below w.heap.size w A) (hg : A.grownBy X row) (hn : w.heap.size ≤ n) (hr : ∀ r, row = some r → n ≤ r) : Below w.heap.size w X :=
 ⟨hg.os.trans h.os, hg.tape.trans h.tape, hg.output.trans h.output, Nat.le_trans h.size hg.size, fun k hk => (hg.block k (Nat.lt_of_lt_of_le hk h.size) (fun e => by have := hr k e.symm; omega)).trans (h.block k hk)⟩
theorem RightSt.own {w : World} {t : It} {Bm Br n : Nat} (hn : w.heap.size ≤ n) : OwnFrom n (fun k W => RightSt w t Bm Br k W) := fun k A X row hs hg hr =>
 ⟨⟨hs.1.1.ownR hg (fun r e => (hr r e).2), hs.1.2.ownR hg (fun r e => (hr r e).2)⟩, below_ownR hs.2.1 hg hn (fun r e => (hr r e).1), hs.2.2.1, hs.2.2.2⟩
theorem Has.ne {A : World} {B C : Nat} {t u : TypeId} {cs ds : Array Value} (h : Has A B t cs) (k : Has A C u ds) (hne : t ≠ u) : B ≠ C := fun e => by
 subst e
 unfold Has at h k
 rw [h] at k
 injection k with k
 injection k with _ k _
 exact hne k
theorem Kd.set {n : Nat} {A : World} {B : Nat} {t : TypeId} {cs : Array Value} (h : Has A B t cs) (ht : t ≠ 78) (hn : n ≤ B) (j : Nat) (v : Value) : Kd n A (A.setCell ⟨B, j, none⟩ v) :=
 ⟨(Below.refl _ A).setCell hn v, fun b cs' m hb hA => (Below.heap_setCell A ⟨B, j, none⟩ v b (fun e => by
  simp only at e
  subst e
  rw [show A.heap[b]? = _ from h] at hA
  injection hA with hA
  injection hA with _ hA _
  exact ht hA)).trans hA⟩
theorem all_any (v0 v1 v2 : Value) (w : World) : Calls Tryz.prog 67 #[.agg #[v0, v1, v2]] w fun e w' => e = .returned (.func (.func 97) #[] #[.pointer (some ⟨w.heap.size, 0, none⟩)]) ∧ w.alloc (.cells #[v0, v1, v2] 78) = w' := by
 go_enter Tryz.func67, Tryz.ntmps67
 go_wp2_with fail
 go_ret
 exact ⟨rfl, rfl⟩
theorem right_any (t : It) (v : Value) (w : World) (ht : ItemAt w t v) (hc : countI t ≤ 1099511627776) : Calls Tryz.prog 64 #[v] w fun e w' => e = .returned (.bool (okI t)) ∧ Below w.heap.size w w' := by
 have hmx : Tryz.prog.follows .mixedOrders = true := by kernel_rfl
 obtain ⟨a, cap, rfl, hn, hs, hk⟩ := ht.open
 clear hk hs hn
 have HT := hid ht
 have HC := hid hc
 clear hc
 generalize t.list = l at *
 generalize t.bytes = b at *
 generalize t.kids.length = kn at *
 refine (callsIn_wide (n := 8)).1 ?_
 refine callsIn_of_wp_marks Tryz.func64 rfl trivial ?_ rfl
 simp only [Tryz.ntmps64, List.size_toArray, List.length_cons, List.length_nil, Nat.reduceAdd, Nat.reduceSub, Array.replicate_succ, Array.replicate_zero, List.push_toArray, List.append_toArray, List.nil_append, List.cons_append]
 have LX := ((Has.new w 78 #[.bool l, .string b, .slice a kn cap]).alloc (.cells #[.bool false] 4)).alloc (.cells #[.int .i64 0] 3)
 have LR := (Has.new (w.alloc (.cells #[.bool l, .string b, .slice a kn cap] 78)) 4 #[.bool false]).alloc (.cells #[.int .i64 0] 3)
 have LM := Has.new ((w.alloc (.cells #[.bool l, .string b, .slice a kn cap] 78)).alloc (.cells #[.bool false] 4)) 3 #[.int .i64 0]
 simp only [World.size_alloc] at LR LM
 have Q := (((Below.refl w.heap.size w).alloc (Nat.le_refl _) (.cells #[.bool l, .string b, .slice a kn cap] 78)).alloc (by simp) (.cells #[.bool false] 4)).alloc (by simp; omega) (.cells #[.int .i64 0] 3)
 have hs1 : (((w.alloc (.cells #[.bool l, .string b, .slice a kn cap] 78)).alloc (.cells #[.bool false] 4)).alloc (.cells #[.int .i64 0] 3)).heap.size = w.heap.size + 3 := by simp
 have c0 := LX.cell 0 _ rfl
 have c1 := LX.cell 1 _ rfl
 have c2 := LX.cell 2 _ rfl
 have c3 := LM.cell 0 _ rfl
 have f3 := LM.frozen 0
 have HA := hid (all_any (.bool l) (.string b) (.slice a kn cap))
 replace LX := hid LX
 replace LR := hid LR
 replace LM := hid LM
 replace Q := hid Q
 replace hs1 := hid hs1
 gi_wp2_with fail
 refine (callsIn_free free_wide (HA.out _)).mono ?_
 rintro _ W2 ⟨rfl, hW2⟩
 generalize ((w.alloc (.cells #[.bool l, .string b, .slice a kn cap] 78)).alloc (.cells #[.bool false] 4)).alloc (.cells #[.int .i64 0] 3) = W1 at *
 have LX2 := hid (show Has W2 W1.heap.size 78 #[.bool l, .string b, .slice a kn cap] by rw [← hW2]; exact Has.new _ _ _)
 have q2 : Below W1.heap.size W1 W2 := by rw [← hW2]; exact (Below.refl _ _).alloc (Nat.le_refl _) _
 replace LR := hid (LR.out.later q2)
 replace LM := hid (LM.out.later q2)
 replace Q := hid (Q.out.trans (q2.mono Q.out.size))
 have hs2 : W2.heap.size = w.heap.size + 4 := by rw [← hW2, World.size_alloc, hs1.out]
 rw [hs1.out] at LX2 ⊢
 replace hs2 := hid hs2
 clear c0 c1 c2 c3 f3 hW2 q2 LX hs1 HA
 gi_wp2_with fail
 refine wpIn_rangeFunc_C rfl (by omega) (gf := 97) (lb := #[.pointer (some ⟨w.heap.size + 3, 0, none⟩)]) rfl trivial (enters_of Tryz.func97 (by kernel_rfl) rfl)
  (all_seq _ t l b a kn cap (w.heap.size + 3) w W2 HT.out Q.out LX2.out HC.out) GrR.keeps Kd.trans (fun W l o o' hl h1 h2 _ => Kd.put W l o o' (by have := hs2.out; omega) h1 h2) (fun k args W _ hE => by obtain ⟨d', x, v', _, e, _⟩ := hE; rw [e]; rfl)
  (fun k W => RightSt w t (w.heap.size + 1 + 1) (w.heap.size + 1) k W) (fun c _ W => c = .ret ∧ okI t = false ∧ Has W (w.heap.size + 1) 4 #[.bool false] ∧ Below w.heap.size w W) (RightSt.own (by have := hs2.out; omega))
  (fun c k A X row hs hg hr => ⟨hs.1, hs.2.1, hs.2.2.1.ownR hg (fun r e => (hr r e).2), below_ownR hs.2.2.2 hg (by have := hs2.out; omega) (fun r e => (hr r e).1)⟩)
  (fun s V X hs hb => hs.later hb) (fun c s V X hs hb => ⟨hs.1, hs.2.1, hs.2.2.1.later hb, hs.2.2.2.trans (Below.mono hb hs.2.2.2.size)⟩) ⟨⟨LM.out, LR.out⟩, Q.out, by omega, fun j hj => absurd hj (by omega)⟩
  (fun k a' V => ∃ d x l1 b1 a1 n1 cap1 bx, (preI 0 t)[k]? = some (d, x) ∧ ItemAt w x (.agg #[.bool l1, .string b1, .slice a1 n1 cap1]) ∧ Has V bx 78 #[.bool l1, .string b1, .slice a1 n1 cap1] ∧
   a' = { tmps := #[.agg #[.bool l, .string b, .slice a kn cap], .pointer (some ⟨w.heap.size, 0, none⟩), .pointer (some ⟨w.heap.size + 1, 0, none⟩), .pointer (some ⟨w.heap.size + 1 + 1, 0, none⟩), .int .i64 ((d : Nat) : Int), .pointer (some ⟨bx, 0, none⟩), .agg #[.bool l, .string b, .slice a kn cap], .func (.func 97) #[] #[.pointer (some ⟨w.heap.size + 3, 0, none⟩)], .int .i64 ((d : Nat) : Int), .agg #[.bool l1, .string b1, .slice a1 n1 cap1], undef, undef, undef, undef, undef, undef, undef, undef, undef, undef, undef, undef, undef], defers := [] })
  (fun k a' _ X Y row hs hg hr => by
   obtain ⟨d, x, l1, b1, a1, n1, cap1, bx, h1, h2, h3, e⟩ := hs
   exact ⟨d, x, l1, b1, a1, n1, cap1, bx, h1, h2, h3.ownR hg (fun r e => (hr r e).2), e⟩) ?assign ?body ?done ?stop
 case assign =>
  intro ll k args W K hll hkN hst hE hK
  obtain ⟨d, x, v', h1, rfl, h3⟩ := hE
  obtain ⟨a1, cap1, rfl, _, _, _⟩ := h3.open
  have HST := hid hst
  have HK := hid hK
  have H3 := hid h3
  have H1 := hid h1
  clear hst hkN hK h3 h1
  have NX := Has.new W 78 #[.bool false, .string ⟨#[]⟩, .slice none 0 0]
  have x0 := NX.cell 0 _ rfl
  have x1 := NX.cell 1 _ rfl
  have x2 := NX.cell 2 _ rfl
  have f0 := NX.frozen 0
  have f1 := NX.frozen 1
  have f2 := NX.frozen 2
  replace NX := hid NX
  generalize x.list = l1 at *
  generalize x.bytes = b1 at *
  generalize x.kids.length = n1 at *
  gi_wp2_with fail
  have hg := (Below.refl W.heap.size W).alloc (Nat.le_refl _) (.cells #[.bool l1, .string b1, .slice a1 n1 cap1] 78)
  exact HK.out _ _ ((KeepsOthers.alloc _ _).from _) (Kd.grow hg HST.out.2.1.size) (HST.out.later hg) ⟨d, x, l1, b1, a1, n1, cap1, W.heap.size, H1.out, H3.out, Has.new _ _ _, rfl⟩
 case body =>
  rintro ll k a' W hl hlo hkN hst ⟨d, x, l1, b1, a1, n1, cap1, bx, h1, h2, h3, rfl⟩
  have hne := h3.ne hst.1.1 (by decide)
  have hne2 := hst.1.2.ne hst.1.1 (by decide)
  have cM := hst.1.1.cell 0 _ rfl
  have fM := hst.1.1.frozen 0
  have cR := hst.1.2.cell 0 _ rfl
  have fR := hst.1.2.frozen 0
  have e0 := h3.cell 0 _ rfl
  have e1 := h3.cell 1 _ rfl
  have e2 := h3.cell 2 _ rfl
  have hkd := Kd.set (n := w.heap.size) hst.1.1 (by decide) (by omega) 0 (.int .i64 (((k + 1 : Nat)) : Int))
  have LM2 : Has (W.setCell ⟨w.heap.size + 1 + 1, 0, none⟩ (.int .i64 (((k + 1 : Nat)) : Int))) (w.heap.size + 1 + 1) 3 #[.int .i64 (((k + 1 : Nat)) : Int)] := hst.1.1.set 0 _
  have LR2 : Has (W.setCell ⟨w.heap.size + 1 + 1, 0, none⟩ (.int .i64 (((k + 1 : Nat)) : Int))) (w.heap.size + 1) 4 #[.bool false] := hst.1.2.other hne2 _
  have Q2 := hst.2.1.setCell (p := ⟨w.heap.size + 1 + 1, 0, none⟩) (by simp; omega) (.int .i64 (((k + 1 : Nat)) : Int))
  have hk0 : k ≤ 5000 := hst.2.2.1
  have hfit := hid hst.2.2.2
  have HI2 := hid (either_any x (.agg #[.bool l1, .string b1, .slice a1 n1 cap1]) (W.setCell ⟨w.heap.size + 1 + 1, 0, none⟩ (.int .i64 (((k + 1 : Nat)) : Int))) (h2.later Q2))
  have hmany := hid (show ¬ k + 1 ≤ 5000 → okI t = false from fun h => okI_many (by omega))
  have hbad := hid (show ¬ (d < 16 ∧ (x.list = true → x.bytes = ⟨#[]⟩) ∧ (x.list = false → x.kids.length = 0)) → okI t = false from fun h => okI_not (k := k) (fun hf => h (hf _ h1)))
  have hgood := hid (show d < 16 → decide ((x.list = true → x.bytes = ⟨#[]⟩) ∧ (x.list = false → x.kids.length = 0)) = true → FitI t k from fun h h' p hp => by
   rw [h1] at hp
   injection hp with hp
   subst hp
   exact ⟨h, of_decide_eq_true h'⟩)
  have hbad1 := hid (show ¬ d < 16 → okI t = false from fun h => hbad.out (fun hh => h hh.1))
  have hbad2 := hid (show decide ((x.list = true → x.bytes = ⟨#[]⟩) ∧ (x.list = false → x.kids.length = 0)) = false → okI t = false from fun h => hbad.out (fun hh => by simp only [decide_eq_false_iff_not] at h; exact h hh.2))
  have hkk := hid (show W2.heap.size ≤ W2.heap.size ∧ w.heap.size + 1 < W2.heap.size from ⟨Nat.le_refl _, by have := hs2.out; omega⟩)
  obtain ⟨R, hR⟩ : ∃ R, decide ((x.list = true → x.bytes = ⟨#[]⟩) ∧ (x.list = false → x.kids.length = 0)) = R := ⟨_, rfl⟩
  rw [hR] at HI2 hgood hbad2
  have hcast : ((k + 1 : Nat) : Int) = (k : Int) + 1 := by omega
  rw [hcast] at hkd LM2 LR2 Q2 HI2
  have hcst := hid hcast
  have hkI : (k : Int) ≤ 5000 := by omega
  have hk0I : (0 : Int) ≤ (k : Int) := by omega
  have hdI0 : (0 : Int) ≤ (d : Int) := by omega
  have KE := hid ((KeepsOthers.setCell W ⟨w.heap.size + 1 + 1, 0, none⟩ (.int .i64 ((k : Int) + 1))).from W2.heap.size)
  replace hkd := hid hkd
  replace LM2 := hid LM2
  replace LR2 := hid LR2
  replace Q2 := hid Q2
  replace hne := hid hne
  have hneS : ¬ bx = w.heap.size + 1 + 1 := hne.out
  clear hbad h1 h2 h3 hst hR hcast hl hlo hkN
  have hstop : ∀ X : World, KeepsFrom W2.heap.size W X → Has X (w.heap.size + 1) 4 #[.bool false] → Below w.heap.size w X → okI t = false →
    roundN W2.heap.size (Kd w.heap.size) (fun k W => RightSt w t (w.heap.size + 1 + 1) (w.heap.size + 1) k W) (fun c (_ : Nat) W => c = .ret ∧ okI t = false ∧ Has W (w.heap.size + 1) 4 #[.bool false] ∧ Below w.heap.size w W) k W .ret { tmps := #[], defers := [] } (X.setCell ⟨w.heap.size + 1, 0, none⟩ (.bool false)) := fun X h1 h2 h3 h4 =>
   ⟨h1.trans ((KeepsOthers.setCell _ _ _).from _), rfl, h4, h2.set 0 _, h3.setCell (by simp) _⟩
  replace hstop := hid hstop
  by_cases hk1 : k + 1 ≤ 5000
  ·have hk1I : (k : Int) + 1 ≤ 5000 := by omega
   have hb1 : decide (5000 < (k : Int) + 1) = false := by simpa using hk1I
   by_cases hd : d < 16
   ·have hdI : (d : Int) < 16 := by omega
    have hb2 : decide (16 ≤ (d : Int)) = false := by simpa using hdI
    gi_wp2_with fail
    refine (callsIn_free (free_round ll) HI2.out).mono ?_
    rintro _ W3 ⟨rfl, q⟩
    have KE3 := hid (KE.out.trans (⟨q.size, fun k _ _ h _ => (q.block k (Array.getElem?_eq_some_iff.1 h).1).trans h⟩ : KeepsFrom W2.heap.size _ _))
    have kd3 := hid (hkd.out.trans (Kd.grow q (Q2.out.size)))
    have LM3 := hid (LM2.out.later q)
    have LR3 := hid (LR2.out.later q)
    have Q3 := hid (Q2.out.trans (q.mono Q2.out.size))
    have c3 := LR3.out.cell 0 _ rfl
    have f3 := LR3.out.frozen 0
    clear q HI2 cM fM cR fR e0 e1 e2
    cases R with
    | true =>
     have hg := hid (hgood.out hd rfl)
     gi_wp2_with fail
     refine ⟨KE3.out, kd3.out, ⟨by rw [hcst.out]; exact LM3.out, LR3.out⟩, Q3.out, hk1, fun j hj => ?_⟩
     by_cases hjk : j = k
     ·rw [hjk]; exact hg.out
     ·exact hfit.out j (by omega)
    | false =>
     have hb := hid (hbad2.out rfl)
     gi_wp2_with fail
     exact hstop.out _ KE3.out LR3.out Q3.out hb.out
   ·have hb2 : decide (16 ≤ (d : Int)) = true := decide_eq_true (by omega)
    have hb := hid (hbad1.out hd)
    have c3 := LR2.out.cell 0 _ rfl
    have f3 := LR2.out.frozen 0
    gi_wp2_with fail
    exact hstop.out _ KE.out LR2.out Q2.out hb.out
  ·have hb := hid (hmany.out hk1)
   have hb1 : decide (5000 < (k : Int) + 1) = true := decide_eq_true (by omega)
   have c3 := LR2.out.cell 0 _ rfl
   have f3 := LR2.out.frozen 0
   gi_wp2_with fail
   exact hstop.out _ KE.out LR2.out Q2.out hb.out
 case done =>
  rintro D W hD hst hK
  have hok := hid (show okI t = true from okI_of hst.2.2.1 hst.2.2.2)
  have LR2 := hst.1.2
  have Q2 := hst.2.1
  have hDR : w.heap.size + 1 ≠ D := by have := hs2.out; omega
  have c3 := LR2.cell 0 _ rfl
  have f3 := LR2.frozen 0
  have hK2 := hid (show (W.setCell ⟨w.heap.size + 1, 0, none⟩ (.bool true)).heap[D]? = some (.deferred (some [])) from (Below.heap_setCell W ⟨w.heap.size + 1, 0, none⟩ _ D (fun e => hDR e.symm)).trans hK)
  have LR3 := hid (show Has ((W.setCell ⟨w.heap.size + 1, 0, none⟩ (.bool true)).putObj D (.deferred none)) (w.heap.size + 1) 4 #[.bool true] from (World.putObj_heap_other hDR).trans (LR2.set 0 _))
  have Q3 := hid (show Below w.heap.size w ((W.setCell ⟨w.heap.size + 1, 0, none⟩ (.bool true)).putObj D (.deferred none)) from (Q2.setCell (by simp) _).trans ⟨rfl, rfl, rfl, by simp, fun k hk => World.putObj_heap_other (by have := hs2.out; omega)⟩)
  clear hst hK LR2 Q2 hDR
  gi_wp2_with fail
  refine ⟨by simp, .inl ⟨_, _, rfl, run_takeDeferred hK2.out, ?_⟩⟩
  have y0 := LR3.out.cell 0 _ rfl
  exact ⟨.bool true, by simp [results, Tryz.results64, go_sem, y0], by rw [hok.out], Q3.out⟩
 case stop =>
  rintro D c k W hD hk ⟨rfl, h1, h2, h3⟩ hK
  have hDR : w.heap.size + 1 ≠ D := by have := hs2.out; omega
  have LR3 := hid (show Has (W.putObj D (.deferred none)) (w.heap.size + 1) 4 #[.bool false] from (World.putObj_heap_other hDR).trans h2)
  have Q3 := hid (show Below w.heap.size w (W.putObj D (.deferred none)) from h3.trans ⟨rfl, rfl, rfl, by simp, fun k hk => World.putObj_heap_other (by have := hs2.out; omega)⟩)
  have hok := hid h1
  replace hK := hid hK
  clear h1 h2 h3 hDR
  gi_wp2_with fail
  refine ⟨by simp, .inl ⟨_, _, rfl, run_takeDeferred hK.out, ?_⟩⟩
  have y0 := LR3.out.cell 0 _ rfl
  exact ⟨.bool false, by simp [results, Tryz.results64, go_sem, y0], by rw [hok.out], Q3.out⟩
end Go.Proofs.YtkicmbdjihjgfaaGreatDoor
namespace Go.Proofs.YtkicmbdjihjgfaaGreatDoor
theorem val256_snoc : ∀ (l : List UInt8) (n : Nat) (c : UInt8), val256 n (l ++ [c]) = val256 n l * 256 + c.toNat
 | [], n, c => rfl
 | x :: r, n, c => val256_snoc r _ c
theorem val256_from : ∀ (l : List UInt8) (n : Nat), val256 n l = n * 256 ^ l.length + val256 0 l
 | [], n => by simp [val256]
 | c :: r, n => by
  rw [val256, val256_from r, val256, val256_from r (0 * 256 + c.toNat), List.length_cons, Nat.pow_succ, Nat.add_mul, Nat.mul_comm (256 ^ r.length) 256, ← Nat.mul_assoc, Nat.zero_mul, Nat.zero_add]
  omega
theorem digs_zero : digs 0 = [] := by rw [digs]; simp
theorem digs_pos {n : Nat} (h : n ≠ 0) : digs n = digs (n / 256) ++ [UInt8.ofNat (n % 256)] := by rw [digs]; simp [h]
def Bare (l : List UInt8) : Prop := ∀ c r, l = c :: r → c ≠ 0
theorem snoc_cases {α : Type} (l : List α) : l = [] ∨ ∃ r c, l = r ++ [c] := by
 rcases h : l.reverse with _ | ⟨c, r⟩
 ·exact .inl (by simpa using h)
 ·exact .inr ⟨r.reverse, c, by have := congrArg List.reverse h; simpa using this⟩
theorem val256_pos {l : List UInt8} (h : Bare l) (hl : l ≠ []) : val256 0 l ≠ 0 := by
 rcases l with _ | ⟨c, r⟩
 ·exact absurd rfl hl
 ·have hc := h c r rfl
  have hp : 0 < 256 ^ r.length := Nat.pow_pos (by decide)
  rw [val256, val256_from]
  intro h0
  have : (0 * 256 + c.toNat) * 256 ^ r.length = 0 := by omega
  rcases Nat.mul_eq_zero.1 this with h1 | h1
  ·exact hc (UInt8.toNat_inj.1 (by show c.toNat = 0; omega))
  ·omega
theorem digs_val : ∀ (k : Nat) (l : List UInt8), l.length = k → Bare l → digs (val256 0 l) = l := by
 intro k
 induction k with
 | zero => intro l hl _; rw [List.length_eq_zero_iff.1 hl]; exact digs_zero
 | succ k ih =>
  intro l hl hb
  rcases snoc_cases l with rfl | ⟨r, c, rfl⟩
  ·simp at hl
  ·have hne := val256_pos hb (by simp)
   rw [digs_pos hne, val256_snoc]
   have hc := c.toNat_lt
   rw [show (val256 0 r * 256 + c.toNat) / 256 = val256 0 r by omega, show (val256 0 r * 256 + c.toNat) % 256 = c.toNat by omega, UInt8.ofNat_toNat]
   rw [ih r (by simpa using hl) (fun x y e => hb x (y ++ [c]) (by rw [e]; rfl))]
theorem digs_length {n k : Nat} (h : n < 256 ^ k) : (digs n).length ≤ k := by
 induction k generalizing n with
 | zero =>
  have : n = 0 := by simpa using h
  subst this
  rw [digs_zero]; simp
 | succ k ih =>
  by_cases h0 : n = 0
  ·subst h0; rw [digs_zero]; simp
  ·rw [digs_pos h0]
   have := ih (n := n / 256) (by rw [Nat.pow_succ] at h; omega)
   simp
   omega
def sl (s : List UInt8) (a b : Nat) : List UInt8 := (s.drop a).take (b - a)
theorem encI_list (ks : List It) : encI (.mk true ⟨#[]⟩ ks) = headL 192 (encL ks).length ++ encL ks := by rw [encI]; simp
theorem encI_bare (b : ByteArray) (h : bareB b.data.toList = true) : encI (.mk false b []) = b.data.toList := by rw [encI]; simp [h]
theorem encI_text (b : ByteArray) (h : bareB b.data.toList = false) : encI (.mk false b []) = headL 128 b.data.toList.length ++ b.data.toList := by rw [encI]; simp [h]
end Go.Proofs.YtkicmbdjihjgfaaGreatDoor
namespace Go.Proofs.YtkicmbdjihjgfaaGreatDoor
open Go Go.RowKit Go.Shelf
attribute [local go_sem] Oper.semAt_some Grows wide_fn
def byteN (a t : Nat) : Nat := a / 256 ^ t % 256
theorem byteN_lt (a t : Nat) : byteN a t < 256 := Nat.mod_lt _ (by decide)
theorem byteN_lim (a k i : Nat) (hk : k < 4) (hi : i < 8) : (lim a k / 256 ^ i) % 256 = (byteN a (8 * k + i) : Int) := by
 unfold byteN
 have h : ∀ x : Nat, ((x % 18446744073709551616 : Nat) : Int) / 256 ^ i % 256 = ((x / 256 ^ i % 256 : Nat) : Int) := by
  intro x
  have : i = 0 ∨ i = 1 ∨ i = 2 ∨ i = 3 ∨ i = 4 ∨ i = 5 ∨ i = 6 ∨ i = 7 := by omega
  rcases this with rfl | rfl | rfl | rfl | rfl | rfl | rfl | rfl <;> simp only [Nat.reducePow, Int.reducePow] <;> omega
 match k, hk with
 | 0, _ =>
  show ((a % 18446744073709551616 : Nat) : Int) / 256 ^ i % 256 = _
  rw [h a, Nat.mul_zero, Nat.zero_add]
 | 1, _ =>
  show ((a / 18446744073709551616 % 18446744073709551616 : Nat) : Int) / 256 ^ i % 256 = _
  rw [h, show (18446744073709551616 : Nat) = 256 ^ (8 * 1) by decide, Nat.div_div_eq_div_mul, ← Nat.pow_add]
 | 2, _ =>
  show ((a / 340282366920938463463374607431768211456 % 18446744073709551616 : Nat) : Int) / 256 ^ i % 256 = _
  rw [h, show (340282366920938463463374607431768211456 : Nat) = 256 ^ (8 * 2) by decide, Nat.div_div_eq_div_mul, ← Nat.pow_add]
 | 3, _ =>
  show ((a / 6277101735386680763835789423207666416102355444464034512896 % 18446744073709551616 : Nat) : Int) / 256 ^ i % 256 = _
  rw [h, show (6277101735386680763835789423207666416102355444464034512896 : Nat) = 256 ^ (8 * 3) by decide, Nat.div_div_eq_div_mul, ← Nat.pow_add]
def outAt (a m j : Nat) : Value := if 32 - m ≤ j then .int .u8 (byteN a (31 - j) : Int) else .int .u8 0
theorem outAt_succ (a m : Nat) (hm : m < 32) : (fun j => if j = 31 - m then Value.int .u8 (byteN a m : Int) else outAt a m j) = fun j => if j < 32 then outAt a (m + 1) j else outAt a m j := by
 funext j
 unfold outAt
 by_cases h : j = 31 - m
 ·subst h
  rw [if_pos rfl, if_pos (by omega), if_pos (by omega), show 31 - (31 - m) = m by omega]
 ·rw [if_neg h]
  by_cases h2 : j < 32
  ·rw [if_pos h2]
   by_cases h3 : 32 - m ≤ j
   ·rw [if_pos h3, if_pos (by omega)]
   ·rw [if_neg h3, if_neg (by omega)]
  ·rw [if_neg h2]
def bytesOf (a : Nat) : ByteArray := strOfNums ((List.range 32).map fun j => (byteN a (31 - j) : Int))
def BytSt (w : World) (a m : Nat) (W : World) : Prop :=
 (W.rowIs (w.heap.size + 1) 138 32 (outAt a m) ∧ Boxed W (w.heap.size + 1 + 1) 3 (.int .i64 ((32 - m : Nat) : Int)) ∧ Arr4 W w.heap.size 28 (lim a) ∧ Boxed W (w.heap.size + 1 + 1 + 1) 158 (.pointer (some ⟨w.heap.size, 0, none⟩))) ∧ Below w.heap.size w W
theorem rowIs_own {β : Type} (B : Nat) (t : TypeId) (n : Nat) (f : β → Nat → Value) : Own (fun s W => World.rowIs W B t n (f s)) := fun s X Y row hs hg hrow =>
 hs.of_block (hg.block B hs.lt (fun e' => by
  obtain ⟨o, ho, hc⟩ := hrow B e'.symm
  obtain ⟨cs, h1, _⟩ := hs
  rw [h1] at ho
  cases ho
  cases hc))
theorem BytSt.own (w : World) (a B : Nat) (hB : w.heap.size ≤ B) : OwnFrom B (fun m W => BytSt w a m W) :=
 OwnFrom.and (Own.from (fun s X Y row hs hg hr => ⟨rowIs_own _ _ _ (fun m : Nat => outAt a m) s X Y row hs.1 hg hr, boxed_own _ _ (fun m : Nat => Value.int .i64 ((32 - m : Nat) : Int)) s X Y row hs.2.1 hg hr,
  Arr4.own _ _ (fun _ : Nat => _) s X Y row hs.2.2.1 hg hr, boxed_own _ _ (fun _ : Nat => _) s X Y row hs.2.2.2 hg hr⟩) _) (ownFrom_below (Nat.le_refl _) hB)
def partAt (a k : Nat) : Nat → Int
 | 0 => lim a k
 | i + 1 => partAt a k i / 256
theorem partAt_eq (a k : Nat) : ∀ i, partAt a k i = lim a k / 256 ^ i
 | 0 => by simp [partAt]
 | i + 1 => by
  show partAt a k i / 256 = _
  rw [partAt_eq a k i]
  obtain ⟨x, hx⟩ := Int.eq_ofNat_of_zero_le (lim_u64 a k).1
  rw [hx, Int.pow_succ]
  have h : ((x / 256 ^ i / 256 : Nat) : Int) = ((x / (256 ^ i * 256) : Nat) : Int) := by rw [Nat.div_div_eq_div_mul]
  simpa using h
theorem partAt_u64 (a k i : Nat) : U64 (partAt a k i) := by
 rw [partAt_eq]
 have h := lim_u64 a k
 unfold U64 at *
 exact ⟨Int.ediv_nonneg h.1 (Int.pow_nonneg (by decide)), Int.lt_of_le_of_lt (Int.ediv_le_self _ h.1) h.2⟩
theorem partAt_byte (a k i : Nat) (hk : k < 4) (hi : i < 8) : IntKind.u8.wrap (partAt a k i) = (byteN a (8 * k + i) : Int) := by
 have h := byteN_lim a k i hk hi
 rw [← partAt_eq] at h
 rw [← h]
 rfl
theorem bytes_ret (a : Nat) (_ha : W256 a) : Ret Tryz.prog 102 #[wv a] (.string (bytesOf a)) := by
 intro w
 unfold wv
 have h1 : 1 ≤ 4 := by omega
 refine (callsIn_wide (n := 4)).1 ?_
 refine callsIn_of_wp_marks Tryz.func102 rfl trivial ?_ rfl
 simp only [Tryz.ntmps102, List.size_toArray, List.length_cons, List.length_nil, Nat.reduceAdd, Nat.reduceSub, Array.replicate_succ, Array.replicate_zero, List.push_toArray, List.append_toArray, List.nil_append, List.cons_append]
 gi_wp2_with (gi_at_call 128; refine (callsIn_free free_wide (parts_any _ _)).mono ?_; rintro e w' ⟨rfl, rfl⟩)
 obtain ⟨W0, hW0⟩ : ∃ W0, ((((w.alloc (.cells #[.int .u64 (lim a 0), .int .u64 (lim a 1), .int .u64 (lim a 2), .int .u64 (lim a 3)] 28)).alloc (.cells #[.int .u8 0, .int .u8 0, .int .u8 0, .int .u8 0, .int .u8 0, .int .u8 0, .int .u8 0, .int .u8 0, .int .u8 0, .int .u8 0, .int .u8 0, .int .u8 0, .int .u8 0, .int .u8 0, .int .u8 0, .int .u8 0, .int .u8 0, .int .u8 0, .int .u8 0, .int .u8 0, .int .u8 0, .int .u8 0, .int .u8 0, .int .u8 0, .int .u8 0, .int .u8 0, .int .u8 0, .int .u8 0, .int .u8 0, .int .u8 0, .int .u8 0, .int .u8 0] 138)).alloc (.cells #[.int .i64 32] 3)).alloc (.cells #[.pointer (some ⟨w.heap.size, 0, none⟩)] 158)) = W0 := ⟨_, rfl⟩
 have hsz : W0.heap.size = w.heap.size + 4 := by rw [← hW0]; simp
 have hJ0 : BytSt w a 0 W0 := by
  rw [← hW0]
  refine ⟨⟨?_, ?_, ?_, ?_⟩, ((((Below.refl _ w).alloc (Nat.le_refl _) _).alloc (by simp) _).alloc (by simp; omega) _).alloc (by simp; omega) _⟩
  ·have h := World.rowIs_alloc (w.alloc (.cells #[.int .u64 (lim a 0), .int .u64 (lim a 1), .int .u64 (lim a 2), .int .u64 (lim a 3)] 28)) #[.int .u8 0, .int .u8 0, .int .u8 0, .int .u8 0, .int .u8 0, .int .u8 0, .int .u8 0, .int .u8 0, .int .u8 0, .int .u8 0, .int .u8 0, .int .u8 0, .int .u8 0, .int .u8 0, .int .u8 0, .int .u8 0, .int .u8 0, .int .u8 0, .int .u8 0, .int .u8 0, .int .u8 0, .int .u8 0, .int .u8 0, .int .u8 0, .int .u8 0, .int .u8 0, .int .u8 0, .int .u8 0, .int .u8 0, .int .u8 0, .int .u8 0, .int .u8 0] 138 (outAt a 0) (fun i hi => by
    match i, hi with
    | 0, _ => rfl
    | 1, _ => rfl
    | 2, _ => rfl
    | 3, _ => rfl
    | 4, _ => rfl
    | 5, _ => rfl
    | 6, _ => rfl
    | 7, _ => rfl
    | 8, _ => rfl
    | 9, _ => rfl
    | 10, _ => rfl
    | 11, _ => rfl
    | 12, _ => rfl
    | 13, _ => rfl
    | 14, _ => rfl
    | 15, _ => rfl
    | 16, _ => rfl
    | 17, _ => rfl
    | 18, _ => rfl
    | 19, _ => rfl
    | 20, _ => rfl
    | 21, _ => rfl
    | 22, _ => rfl
    | 23, _ => rfl
    | 24, _ => rfl
    | 25, _ => rfl
    | 26, _ => rfl
    | 27, _ => rfl
    | 28, _ => rfl
    | 29, _ => rfl
    | 30, _ => rfl
    | 31, _ => rfl
    | n + 32, h => exact absurd h (by show ¬ (n + 32 < 32); omega))
   rw [World.size_alloc] at h
   exact (h.alloc _).alloc _
  ·have h := Boxed.new ((w.alloc (.cells #[.int .u64 (lim a 0), .int .u64 (lim a 1), .int .u64 (lim a 2), .int .u64 (lim a 3)] 28)).alloc (.cells #[.int .u8 0, .int .u8 0, .int .u8 0, .int .u8 0, .int .u8 0, .int .u8 0, .int .u8 0, .int .u8 0, .int .u8 0, .int .u8 0, .int .u8 0, .int .u8 0, .int .u8 0, .int .u8 0, .int .u8 0, .int .u8 0, .int .u8 0, .int .u8 0, .int .u8 0, .int .u8 0, .int .u8 0, .int .u8 0, .int .u8 0, .int .u8 0, .int .u8 0, .int .u8 0, .int .u8 0, .int .u8 0, .int .u8 0, .int .u8 0, .int .u8 0, .int .u8 0] 138)) 3 (.int .i64 32)
   rw [World.size_alloc, World.size_alloc] at h
   exact h.alloc _
  ·exact (((Arr4.word w _ a).alloc _).alloc _).alloc _
  ·have h := Boxed.new (((w.alloc (.cells #[.int .u64 (lim a 0), .int .u64 (lim a 1), .int .u64 (lim a 2), .int .u64 (lim a 3)] 28)).alloc (.cells #[.int .u8 0, .int .u8 0, .int .u8 0, .int .u8 0, .int .u8 0, .int .u8 0, .int .u8 0, .int .u8 0, .int .u8 0, .int .u8 0, .int .u8 0, .int .u8 0, .int .u8 0, .int .u8 0, .int .u8 0, .int .u8 0, .int .u8 0, .int .u8 0, .int .u8 0, .int .u8 0, .int .u8 0, .int .u8 0, .int .u8 0, .int .u8 0, .int .u8 0, .int .u8 0, .int .u8 0, .int .u8 0, .int .u8 0, .int .u8 0, .int .u8 0, .int .u8 0] 138)).alloc (.cells #[.int .i64 32] 3)) 158 (.pointer (some ⟨w.heap.size, 0, none⟩))
   simpa using h
 rw [hW0]
 clear hW0
 refine wpIn_rangeFunc_N1 rfl h1 (gf := 152) (lb := #[.pointer (some ⟨w.heap.size + 1 + 1 + 1, 0, none⟩)]) rfl trivial (enters_of Tryz.func152 (by kernel_rfl) rfl)
  (parts_seq _ (by omega) _ _ (lim a) W0 (by omega) (by omega) hJ0.1.2.2.2.cell (fun j hj => hJ0.1.2.2.1.cell hj)) KeepsAt.trans (KeepsAt.refl _) (KeepsAt.b (by simp; omega)) (fun _ _ => rfl)
  (fun k W => BytSt w a (8 * k) W)
  (fun _ _ _ => False)
  (fun s => BytSt.own w a _ (by omega) (8 * s))
  (fun _ _ _ _ _ hs _ _ => hs)
  hJ0
  (fun k => { tmps := #[.agg #[.int .u64 (lim a 0), .int .u64 (lim a 1), .int .u64 (lim a 2), .int .u64 (lim a 3)], .pointer (some ⟨w.heap.size, 0, none⟩), .string { data := #[] }, .pointer (some ⟨w.heap.size + 1, 0, none⟩), .pointer (some ⟨w.heap.size + 1 + 1, 0, none⟩), undef, .int .u64 (lim a k), .func (.func 152) #[] #[.pointer (some ⟨w.heap.size + 1 + 1 + 1, 0, none⟩)], .int .i64 (k : Int), .int .u64 (lim a k), undef, undef, undef, undef, undef, undef, undef, undef, undef, undef, undef, undef, undef], defers := [] }) ?assign ?body ?done ?stop
 case assign =>
  intro l k W K _ hK
  gi_wp2
  exact hK
 case body =>
  rintro l k W _ hk4 hst
  gi_wp2
  gi_loopw [6, 10] (fun p i wr => ∃ m : Nat, m ≤ 8 ∧ i = .int .i64 m ∧ p = .int .u64 (partAt a k m) ∧ BytSt w a (8 * k + m) wr ∧ KeepsAt [w.heap.size, w.heap.size + 1 + 1 + 1] W wr ∧ KeepsFrom W0.heap.size W wr) (fun p i _ => 8 - (intOf i).toNat)
  case atStart => exact ⟨0, by omega, rfl, rfl, hst, KeepsAt.refl _ _, KeepsFrom.refl _ _⟩
  case round =>
   obtain ⟨m, hm, rfl, rfl, ⟨⟨b1, b2, b3, b4⟩, hB⟩, hKa, hKf⟩ := hrel
   have hl1 := b1.lt
   have hl4 := b4.lt
   by_cases hlt : m < 8
   ·have hu := partAt_u64 a k m
    obtain ⟨hu0, hu1⟩ := hu
    have hby := Lib.hid (partAt_byte a k m hk4 hlt)
    have hps : Hid (partAt a k (m + 1) = partAt a k m / 256) := rfl
    obtain ⟨q, hq⟩ : ∃ q : Nat, q + (8 * k + m) = 31 := ⟨31 - (8 * k + m), by omega⟩
    have c2 := b2.cell
    have f2 := b2.frozen
    rw [show ((32 - (8 * k + m) : Nat) : Int) = (q : Int) + 1 by omega] at c2
    have c1 : wr.cell? ⟨w.heap.size + 1, q, none⟩ = some (outAt a (8 * k + m) q) := b1.cell (by omega)
    have f1 := b1.frozen q
    have hq0 : (0 : Int) ≤ (q : Int) := by omega
    have hq1 : (q : Int) < 32 := by omega
    have hm8 : (m : Int) < 8 := by omega
    have hst' : BytSt w a (8 * k + (m + 1)) ((wr.setCell ⟨w.heap.size + 1 + 1, 0, none⟩ (.int .i64 (q : Int))).setCell ⟨w.heap.size + 1, q, none⟩ (.int .u8 (IntKind.u8.wrap (partAt a k m)))) := by
     refine ⟨⟨?_, ?_, ?_, ?_⟩, (hB.setCell (p := ⟨w.heap.size + 1 + 1, 0, none⟩) (by simp; omega) _).setCell (p := ⟨w.heap.size + 1, q, none⟩) (by simp) _⟩
     ·have h := (b1.setOther (a := ⟨w.heap.size + 1 + 1, 0, none⟩) (by simp) (.int .i64 (q : Int))).set q (.int .u8 (IntKind.u8.wrap (partAt a k m)))
      rw [hby.out, show q = 31 - (8 * k + m) by omega, outAt_succ a (8 * k + m) (by omega)] at h
      rw [hby.out, show q = 31 - (8 * k + m) by omega]
      exact h.congr (fun i hi => (if_pos hi).trans rfl)
     ·have h := Boxed.away (Boxed.set (.int .i64 (q : Int)) b2) (p := ⟨w.heap.size + 1, q, none⟩) (by simp) (.int .u8 (IntKind.u8.wrap (partAt a k m)))
      rw [show ((32 - (8 * k + (m + 1)) : Nat) : Int) = (q : Int) by omega]
      exact h
     ·exact Arr4.other (Arr4.other b3 (by simp; omega) _) (by simp) _
     ·exact Boxed.away (Boxed.away b4 (by simp) _) (by simp; omega) _
    have HS := Lib.hid hst'
    have HB := Lib.hid hB
    clear hst' b1 b2 b3 b4 hst hB hJ0 hq
    gi_wp2
    go_roundw
    case rel => exact ⟨m + 1, by omega, by simp, by rw [hps.out], HS.out, (hKa.setCell (by first | (simp; done) | (simp; omega)) _).setCell (by first | (simp; done) | (simp; omega)) _, (hKf.trans ((KeepsOthers.setCell _ _ _).from _)).trans ((KeepsOthers.setCell _ _ _).from _)⟩
    case measure => simp [intOf]; omega
   ·obtain rfl : m = 8 := by omega
    gi_wp2
    exact ⟨hKf, hKa, ⟨⟨b1, b2, b3, b4⟩, hB⟩⟩
 case done =>
  rintro D W hD ⟨⟨b1, b2, b3, b4⟩, hB⟩ hK
  have hcv := run_convert_bytes_arg (P := Tryz.prog) W 97 5 Tryz.underlying97 Tryz.underlying5 (w.heap.size + 1) 0 32 32 ((List.range 32).map fun j => (byteN a (31 - j) : Int)) (by simp) (fun i hi => by
   have h := b1.cell hi
   rw [Nat.zero_add, h]
   unfold outAt
   rw [if_pos (by omega)]
   simp [hi]) 9 Tryz.underlying9
  have HK := Lib.hid hK
  have HB := Lib.hid hB
  have e : strOfNums ((List.range 32).map fun j => (byteN a (31 - j) : Int)) = bytesOf a := rfl
  rw [e] at hcv
  clear e b1 b2 b3 b4 hK hB hJ0
  gi_wp2
  refine ⟨by simp, .inl ⟨_, _, rfl, run_takeDeferred HK.out, ?_⟩⟩
  exact ⟨_, results_tmp rfl _ _ _, rfl, HB.out.trans (belowK_b (w := w) (Nat.le_refl _) _ D _ _ (by omega) HK.out rfl rfl)⟩
 case stop =>
  rintro D c k W _ _ h _
  exact h.elim

end Go.Proofs.YtkicmbdjihjgfaaGreatDoor
namespace Go.Proofs.YtkicmbdjihjgfaaGreatDoor
open Go Go.RowKit Go.Shelf
attribute [local go_sem] Oper.semAt_some wide_fn
end Go.Proofs.YtkicmbdjihjgfaaGreatDoor
namespace Go.Proofs.YtkicmbdjihjgfaaGreatDoor
open Go Go.RowKit Go.Shelf
attribute [local go_sem] Oper.semAt_some Grows wide_fn
def tpHi (x y p q : Int) : Int := (x * y + p + q) / 18446744073709551616
def rc (z : Nat → Int) (f : Int) (m : Nat → Int) : Nat → Int
 | 0 => 0
 | k + 1 => tpHi (z k) f (m k) (rc z f m k)
def sc (z : Nat → Int) (f p : Int) : Nat → Int
 | 0 => p
 | k + 1 => tpHi (z k) f (sc z f p k) 0

def octVal : Nat → List UInt8 → Nat
 | n, [] => n
 | n, c :: r => octVal (n * 256 + c.toNat) r
def badDigits (d : List UInt8) : Prop := d = [] ∨ (d.head? = some 48 ∧ d ≠ [48])
instance (d : List UInt8) : Decidable (badDigits d) := by unfold badDigits; infer_instance

theorem infoB : (Tryz.prog.info? 5).map (fun i => (i.zero, i.size, i.bytes)) = some (some (.int .u8 0), 1, 1) := by kernel_rfl
theorem owns_below {w w' : World} {base : Nat} {e : TypeId} {size : Nat} {v : Value} {n : Nat} {xs : List Value} (h : w.ownsRow base e size v n xs) (hb : Below w.heap.size w w') : w'.ownsRow base e size v n xs :=
 h.kept (grown_of_below hb none) (by cases hv : v.ownBlock <;> simp)
def byteL (a : Nat) : List Nat := (List.range 32).map fun j => byteN a (31 - j)
theorem bytesOf_list (a : Nat) : (bytesOf a).data.toList = (byteL a).map UInt8.ofNat := by
 unfold bytesOf strOfNums byteL
 simp [Function.comp_def]
theorem bytesOf_size (a : Nat) : (bytesOf a).size = 32 := by
 have : (bytesOf a).data.toList.length = 32 := by rw [bytesOf_list]; simp [byteL]
 simpa using this
end Go.Proofs.YtkicmbdjihjgfaaGreatDoor
namespace Go.Proofs.YtkicmbdjihjgfaaGreatDoor
open Go Go.RowKit
theorem byte_step (a t : Nat) : a / 256 ^ (t + 1) * 256 + byteN a t = a / 256 ^ t := by
 unfold byteN
 rw [Nat.pow_succ, ← Nat.div_div_eq_div_mul]
 omega
theorem byteL_take (a : Nat) : ∀ k, k ≤ 32 → octVal 0 (((List.range k).map fun j => byteN a (31 - j)).map UInt8.ofNat) = a / 256 ^ (32 - k) % 256 ^ k
 | 0, _ => by simp [octVal, Nat.mod_one]
 | k + 1, hk => by
  rw [List.range_succ, List.map_append, List.map_append]
  have h : ∀ (l : List UInt8) (n : Nat) (c : UInt8), octVal n (l ++ [c]) = octVal n l * 256 + c.toNat := by
   intro l
   induction l with
   | nil => intro n c; rfl
   | cons x r ih => intro n c; exact ih _ c
  simp only [List.map_cons, List.map_nil]
  rw [h, byteL_take a k (by omega), UInt8.toNat_ofNat', Nat.mod_eq_of_lt (show byteN a (31 - k) < 2 ^ 8 from byteN_lt a _)]
  have e1 : 32 - k = (31 - k) + 1 := by omega
  have e2 : 32 - (k + 1) = 31 - k := by omega
  have hs := byte_step a (31 - k)
  rw [e1, e2]
  rw [← hs]
  clear hs h e1 e2
  generalize a / 256 ^ (31 - k + 1) = q
  have hb := byteN_lt a (31 - k)
  generalize byteN a (31 - k) = b at *
  rw [Nat.pow_succ, Nat.mul_comm (256 ^ k) 256, Nat.mod_mul]
  have e3 : (q * 256 + b) % 256 = b := by omega
  have e4 : (q * 256 + b) / 256 = q := by omega
  rw [e3, e4]
  exact (Nat.add_comm _ _).trans (congrArg (b + ·) (Nat.mul_comm _ _)) |>.symm ▸ rfl
theorem octVal_bytes (a : Nat) (ha : W256 a) : octVal 0 ((byteL a).map UInt8.ofNat) = a := by
 have h := byteL_take a 32 (Nat.le_refl _)
 have e : (256 : Nat) ^ 32 = 115792089237316195423570985008687907853269984665640564039457584007913129639936 := by decide
 rw [e, Nat.sub_self, Nat.pow_zero, Nat.div_one, Nat.mod_eq_of_lt ha] at h
 exact h
end Go.Proofs.YtkicmbdjihjgfaaGreatDoor
namespace Go.Proofs.YtkicmbdjihjgfaaGreatDoor
open Go Go.RowKit
attribute [local go_sem] Oper.semAt_some Grows wide_fn
theorem val256_oct : ∀ (l : List UInt8) (n : Nat), val256 n l = octVal n l
 | [], _ => rfl
 | _ :: r, n => val256_oct r _
theorem noNought_val : ∀ (l : List UInt8), val256 0 (noNought l) = val256 0 l
 | [] => rfl
 | c :: r => by
  unfold noNought
  by_cases h : c = 0
  ·rw [if_pos h, noNought_val r, h]; rfl
  ·rw [if_neg h]
theorem noNought_bare : ∀ (l : List UInt8), Bare (noNought l)
 | [] => by intro c r h; cases h
 | c :: r => by
  unfold noNought
  by_cases h : c = 0
  ·rw [if_pos h]; exact noNought_bare r
  ·rw [if_neg h]
   intro x y e
   injection e with e1 _
   rw [← e1]; exact h
theorem noNought_digs (l : List UInt8) : noNought l = digs (val256 0 l) := by
 rw [← noNought_val l, digs_val _ _ rfl (noNought_bare l)]
theorem digs_bytes (a : Nat) (ha : W256 a) : noNought (bytesOf a).data.toList = digs a := by
 rw [noNought_digs, bytesOf_list, val256_oct, octVal_bytes a ha]
theorem noNought_drop {l : List UInt8} {k : Nat} {c : UInt8} (h : l[k]? = some c) (hc : c = 0) : noNought (l.drop k) = noNought (l.drop (k + 1)) := by
 obtain ⟨hl, he⟩ := List.getElem?_eq_some_iff.1 h
 rw [List.drop_eq_getElem_cons hl, noNought, he, if_pos hc]
theorem noNought_stop {l : List UInt8} {k : Nat} {c : UInt8} (h : l[k]? = some c) (hc : c ≠ 0) : noNought (l.drop k) = l.drop k := by
 obtain ⟨hl, he⟩ := List.getElem?_eq_some_iff.1 h
 rw [List.drop_eq_getElem_cons hl, noNought, he, if_neg hc]
abbrev strV (l : List UInt8) : Value := .string ⟨l.toArray⟩
theorem trimByte_ret (s : ByteArray) (w : World) : Calls Tryz.prog 124 #[.string s, .int .u8 0] w fun e w' => e = .returned (strV (noNought s.data.toList)) ∧ w = w' := by
 go_enter Tryz.func124, Tryz.ntmps124
 go_wp2
 go_loop [0] (fun v => ∃ k : Nat, k ≤ s.size ∧ v = .string ⟨(s.data.toList.drop k).toArray⟩ ∧ noNought (s.data.toList.drop k) = noNought s.data.toList) (fun v => Lib.strSize v)
 case atStart => exact ⟨0, Nat.zero_le _, by simp, by simp⟩
 case round =>
  obtain ⟨k, hk, rfl, hc⟩ := hrel
  have hts : (⟨(s.data.toList.drop k).toArray⟩ : ByteArray).size = s.size - k := by rw [Lib.size_mk, List.length_drop, ← Lib.size_eq]
  have hb0 : ∀ h, s.data.toList[k]? = some ((⟨(s.data.toList.drop k).toArray⟩ : ByteArray)[0]'h) := by
   intro h
   rw [← Lib.getElem_mk (s.data.toList.drop k) 0 h, List.getElem?_drop]
   rfl
  have hx1 : (⟨(s.data.toList.drop k).toArray⟩ : ByteArray).extract 1 (s.size - k) = ⟨(s.data.toList.drop (k + 1)).toArray⟩ := by
   rw [Lib.extract_mk, List.drop_drop, List.take_of_length_le (by simp; omega)]
  have hK := hid hc
  clear hc
  generalize ht : (⟨(s.data.toList.drop k).toArray⟩ : ByteArray) = t at hts hb0 hx1 ⊢
  have hK3 := hid ht
  clear ht
  have hkl := hid (show k ≤ s.data.toList.length by rw [← Lib.size_eq]; exact hk)
  by_cases h0 : 0 < t.size
  ·have hbk := hid (hb0 h0)
   clear hb0
   by_cases heq : t[0]'h0 = 0
   ·have heq' : ((t[0]'h0).toNat : Int) = 0 := by rw [heq]; rfl
    have hz := hid heq
    clear heq
    go_wp2
    refine ⟨⟨k + 1, by omega, rfl, ?_⟩, ?_⟩
    ·rw [← noNought_drop hbk.out hz.out, hK.out]
    ·simp only [Lib.strSize]
     rw [← hx1, ByteArray.size_extract]
     omega
   ·have heq' : ¬ ((t[0]'h0).toNat : Int) = 0 := fun h => heq (UInt8.toNat_inj.1 (by show (t[0]'h0).toNat = 0; omega))
    have hz := hid heq
    clear heq
    go_wp2
    go_ret
    refine ⟨?_, rfl⟩
    have := noNought_stop hbk.out hz.out
    rw [hK.out] at this
    rw [this]
    show Ending.returned (.string t) = _
    rw [← hK3.out]
  ·have hz : t.size = 0 := by omega
   have hE := hid (show noNought s.data.toList = s.data.toList.drop k by
    rw [← hK.out]
    have : s.data.toList.drop k = [] := List.drop_eq_nil_of_le (by rw [← Lib.size_eq]; omega)
    rw [this]; rfl)
   clear hb0
   go_wp2
   go_ret
   refine ⟨?_, rfl⟩
   rw [hE.out]
   show Ending.returned (.string t) = _
   rw [← hK3.out]
theorem trim_ret (s : ByteArray) (w : World) (hs : s.size ≤ 140737488355328) : Calls Tryz.prog 101 #[.string s, .string ⟨#[0]⟩] w fun e w' => e = .returned (strV (noNought s.data.toList)) ∧ w = w' := by
 have HT := hid (trimByte_ret s)
 by_cases h0 : s = ⟨#[]⟩
 ·subst h0
  go_enter Tryz.func101, Tryz.ntmps101
  go_wp2_with fail
  go_ret
  exact ⟨rfl, rfl⟩
 ·have hbe : (s.toList == []) = false := by
   have e : (ByteArray.mk #[]).toList = [] := by rw [ByteArray.toList_eq]
   rcases hx : (s.toList == []) with _ | _
   ·rfl
   ·have e2 := eq_of_beq hx
    rw [← e, ByteArray.toList_eq, ByteArray.toList_eq] at e2
    exact absurd (ByteArray.ext (Array.toList_inj.1 e2)) h0
  replace h0 := hid h0
  go_enter Tryz.func101, Tryz.ntmps101
  go_wp2_with fail
  refine (HT.out _).mono ?_
  rintro e w1 ⟨rfl, rfl⟩
  go_wp2_with fail
  go_ret
  exact ⟨rfl, rfl⟩
abbrev txtV (l : List UInt8) : Value := .agg #[.bool false, strV l, .slice none 0 0]
theorem text_any (s : ByteArray) (w : World) : Calls Tryz.prog 71 #[.string s] w fun e w' => e = .returned (.agg #[.bool false, .string s, .slice none 0 0]) ∧ Below w.heap.size w w' := by
 have LX := Has.new w 78 #[.bool false, .string s, .slice none 0 0]
 have Q := hid ((Below.refl w.heap.size w).alloc (Nat.le_refl _) (.cells #[.bool false, .string s, .slice none 0 0] 78))
 have k1 := LX.cell 0 _ rfl
 have k2 := LX.cell 1 _ rfl
 have k3 := LX.cell 2 _ rfl
 have NX := Has.new w 78 #[.bool false, .string ⟨#[]⟩, .slice none 0 0]
 have f0 := NX.frozen 0
 have f1 := NX.frozen 1
 have f2 := NX.frozen 2
 have x0 := NX.cell 0 _ rfl
 have x1 := NX.cell 1 _ rfl
 have x2 := NX.cell 2 _ rfl
 replace NX := hid NX
 replace LX := hid LX
 go_enter Tryz.func71, Tryz.ntmps71
 go_wp2_with fail
 exact bodyPost_ret (v := .agg #[.bool false, .string s, .slice none 0 0]) (by simp [results, Tryz.results71, go_sem, k1, k2, k3]) rfl ⟨rfl, Q.out⟩
theorem number_ret (a : Nat) (ha : W256 a) : Ret Tryz.prog 72 #[wv a] (txtV (digs a)) := by
 intro w
 have HB := hid (bytes_ret a ha)
 have HT := hid (show ∀ w, Calls Tryz.prog 101 #[.string (bytesOf a), .string ⟨#[0]⟩] w fun e w' => e = .returned (strV (digs a)) ∧ w = w' from fun w => by
  have := trim_ret (bytesOf a) w (by rw [bytesOf_size]; decide)
  rwa [digs_bytes a ha] at this)
 have HX := hid (text_any ⟨(digs a).toArray⟩)
 have hmx : Tryz.prog.follows .mixedOrders = true := by kernel_rfl
 unfold wv at HB ⊢
 generalize lim a 0 = l0 at *
 generalize lim a 1 = l1 at *
 generalize lim a 2 = l2 at *
 generalize lim a 3 = l3 at *
 generalize bytesOf a = bs at *
 generalize digs a = ds at *
 have LX := (Has.new w 28 #[.int .u64 l0, .int .u64 l1, .int .u64 l2, .int .u64 l3]).alloc (.cells #[.bool false, .string ⟨#[]⟩, .slice none 0 0] 78)
 have NX := Has.new (w.alloc (.cells #[.int .u64 l0, .int .u64 l1, .int .u64 l2, .int .u64 l3] 28)) 78 #[.bool false, .string ⟨#[]⟩, .slice none 0 0]
 have Q := ((Below.refl w.heap.size w).alloc (Nat.le_refl _) (.cells #[.int .u64 l0, .int .u64 l1, .int .u64 l2, .int .u64 l3] 28)).alloc (by simp) (.cells #[.bool false, .string ⟨#[]⟩, .slice none 0 0] 78)
 simp only [World.size_alloc] at NX
 obtain ⟨W1, hW1⟩ : ∃ W1, (w.alloc (.cells #[.int .u64 l0, .int .u64 l1, .int .u64 l2, .int .u64 l3] 28)).alloc (.cells #[.bool false, .string ⟨#[]⟩, .slice none 0 0] 78) = W1 := ⟨_, rfl⟩
 rw [hW1] at LX NX Q
 have k0 := LX.cell 0 _ rfl
 have k1 := LX.cell 1 _ rfl
 have k2 := LX.cell 2 _ rfl
 have k3 := LX.cell 3 _ rfl
 replace LX := hid LX
 replace Q := hid Q
 replace NX := hid NX
 go_enter Tryz.func72, Tryz.ntmps72
 go_wp2_with fail
 refine (HB.out _).mono ?_
 rintro _ W2 ⟨rfl, q⟩
 replace NX := hid (NX.out.later q)
 replace Q := hid (Q.out.trans (q.mono Q.out.size))
 clear k0 k1 k2 k3 LX q hW1
 go_wp2_with fail
 refine (HT.out _).mono ?_
 rintro _ W3 ⟨rfl, rfl⟩
 go_wp2_with fail
 refine (HX.out _).mono ?_
 rintro _ W4 ⟨rfl, q⟩
 replace NX := NX.out.later q
 replace Q := hid (Q.out.trans (q.mono Q.out.size))
 have f0 := NX.frozen 0
 have f1 := NX.frozen 1
 have f2 := NX.frozen 2
 have x0 := NX.cell 0 _ rfl
 have x1 := NX.cell 1 _ rfl
 have x2 := NX.cell 2 _ rfl
 replace NX := hid NX
 clear q
 go_wp2_with fail
 have S := ((NX.out.set 0 (.bool false)).set 1 (strV ds)).set 2 (.slice none 0 0)
 have y0 := S.cell 0 _ rfl
 have y1 := S.cell 1 _ rfl
 have y2 := S.cell 2 _ rfl
 exact bodyPost_ret (v := txtV ds) (by simp [results, Tryz.results72, go_sem, y0, y1, y2]) rfl ⟨rfl, ((Q.out.setCell (by simp) _).setCell (by simp) _).setCell (by simp) _⟩
theorem itemField1 (l : Bool) (s : ByteArray) (a : Option Addr) (n c : Nat) (W : World) : (Instr.field 78 (.agg #[.bool l, .string s, .slice a n c]) 1).run Tryz.prog W = .ok (.string s) W := by
 have u := Tryz.underlying78
 have a3 := Tryz.isAgg9
 unfold Instr.field
 simp only [Sem.run_bind, run_underlying u, Result.andThen_ok]
 simp [go_sem, part, asAgg, a3]
theorem bare_any (l : List UInt8) (hl : l.length ≤ 140737488355328) (w : World) : Calls Tryz.prog 123 #[strV l] w fun e w' => e = .returned (.bool (bareB l)) ∧ w = w' := by
 match l with
 | [] =>
  go_enter Tryz.func123, Tryz.ntmps123
  go_wp2_with fail
  go_ret
  exact ⟨rfl, rfl⟩
 | [c] =>
  have hs : (⟨#[c]⟩ : ByteArray).size = 1 := rfl
  have hv : ∀ h, ((⟨#[c]⟩ : ByteArray)[0]'h) = c := fun h => rfl
  have hB : Hid (bareB [c] = decide (c.toNat < 128)) := hid rfl
  have hc := c.toNat_lt
  by_cases h8 : c.toNat < 128
  ·have h8' : ((c.toNat : Nat) : Int) < 128 := by omega
   have hR := hid (show bareB [c] = true by rw [hB.out]; simpa using h8)
   clear hB hc
   replace h8 := hid h8
   show Calls _ _ #[.string ⟨#[c]⟩] _ _
   generalize (⟨#[c]⟩ : ByteArray) = s at *
   go_enter Tryz.func123, Tryz.ntmps123
   go_wp2_with fail
   go_ret
   exact ⟨by rw [hR.out]; rfl, rfl⟩
  ·have h8' : ¬ ((c.toNat : Nat) : Int) < 128 := by omega
   have hR := hid (show bareB [c] = false by rw [hB.out]; simpa using h8)
   clear hB hc
   replace h8 := hid h8
   show Calls _ _ #[.string ⟨#[c]⟩] _ _
   generalize (⟨#[c]⟩ : ByteArray) = s at *
   go_enter Tryz.func123, Tryz.ntmps123
   go_wp2_with fail
   go_ret
   exact ⟨by rw [hR.out]; rfl, rfl⟩
 | c :: d :: r =>
  have hs : (⟨(c :: d :: r).toArray⟩ : ByteArray).size = r.length + 2 := rfl
  have hR := hid (show bareB (c :: d :: r) = false from rfl)
  have hl2 : r.length ≤ 140737488355328 := by simp at hl; omega
  clear hl
  show Calls _ _ #[.string ⟨(c :: d :: r).toArray⟩] _ _
  generalize (⟨(c :: d :: r).toArray⟩ : ByteArray) = s at *
  have hs1 : ¬ ((s.size : Nat) : Int) = 1 := by omega
  replace hs := hid hs
  go_enter Tryz.func123, Tryz.ntmps123
  go_wp2_with fail
  go_ret
  exact ⟨by rw [hR.out]; rfl, rfl⟩
theorem headOf_short (kind n : Nat) (hk : kind = 128 ∨ kind = 192) (hn : n ≤ 55) : Ret Tryz.prog 122 #[.int .i64 (kind : Int), .int .i64 (n : Int)] (strV (headL kind n)) := by
 intro w
 have hS := hid (show headL kind n = [UInt8.ofNat (kind + n)] from if_pos hn)
 have hnI : (n : Int) ≤ 55 := by omega
 have hk1 : (kind : Int) ≤ 192 := by omega
 have hk0 : (0 : Int) ≤ (kind : Int) := by omega
 have hn0 : (0 : Int) ≤ (n : Int) := by omega
 obtain ⟨x, hx⟩ : ∃ x : Nat, kind + n = x := ⟨_, rfl⟩
 rw [hx] at hS
 have hxI : (kind : Int) + (n : Int) = (x : Int) := by omega
 have LX := Has.new w 5 #[.int .u8 (x : Int)]
 have hcv := run_convert_bytes_arg (P := Tryz.prog) (w.alloc (.cells #[.int .u8 (x : Int)] 5)) 97 5 Tryz.underlying97 Tryz.underlying5 w.heap.size 0 1 1 [(x : Int)] (by simp) (fun i hi => by
  obtain rfl : i = 0 := by omega
  exact LX.cell 0 _ rfl) 9 Tryz.underlying9
 have hst : strOfNums [(x : Int)] = ⟨(headL kind n).toArray⟩ := by
  rw [hS.out]; simp [strOfNums]
 rw [hst] at hcv
 rw [← hxI] at hcv
 have Q := hid ((Below.refl w.heap.size w).alloc (Nat.le_refl _) (.cells #[.int .u8 ((kind : Int) + (n : Int))] 5))
 clear hst hS LX hx hxI
 generalize headL kind n = hl at *
 go_enter Tryz.func122, Tryz.ntmps122
 go_wp2_with fail
 go_ret
 exact ⟨rfl, Q.out⟩
theorem headOf_long (kind n : Nat) (hk : kind = 128 ∨ kind = 192) (hn : 55 < n) (hn2 : n ≤ 4611686018427387903) : Ret Tryz.prog 122 #[.int .i64 (kind : Int), .int .i64 (n : Int)] (strV (headL kind n)) := by
 intro w
 have hS := hid (show headL kind n = UInt8.ofNat (kind + 55 + (digs n).length) :: digs n from if_neg (by omega))
 have hdl : (digs n).length ≤ 8 := digs_length (k := 8) (by omega)
 have HO := of_ret (n : Int) (by unfold I64; omega)
 rw [show ofN (n : Int) = n by unfold ofN; rw [if_neg (by omega)]; omega] at HO
 have HN := hid (number_ret n (by unfold W256; omega))
 replace HO := hid HO
 have hnI : ¬ (n : Int) ≤ 55 := by omega
 have hnI2 : (n : Int) ≤ 4611686018427387903 := by omega
 have hk1 : (kind : Int) ≤ 192 := by omega
 have hk0 : (0 : Int) ≤ (kind : Int) := by omega
 obtain ⟨m, hm⟩ : ∃ m, (digs n).length = m := ⟨_, rfl⟩
 obtain ⟨x, hx⟩ : ∃ x : Nat, kind + 55 + m = x := ⟨_, rfl⟩
 have hxI : (kind : Int) + 55 + (m : Int) = (x : Int) := by omega
 have hmI : (m : Int) ≤ 8 := by omega
 have hm0 : (0 : Int) ≤ (m : Int) := by omega
 have hsz : (⟨(digs n).toArray⟩ : ByteArray).size = m := by rw [← hm]; rfl
 have hcv : ∀ A : World, ∀ dst, Tryz.prog.underlying dst = some .string → (convert 97 dst (.slice (some ⟨A.heap.size, 0, none⟩) 1 1)).run Tryz.prog (A.alloc (.cells #[.int .u8 ((kind : Int) + 55 + (m : Int))] 5)) = .ok (.string ⟨#[UInt8.ofNat (kind + 55 + m)]⟩) (A.alloc (.cells #[.int .u8 ((kind : Int) + 55 + (m : Int))] 5)) := fun A dst hd => by
  rw [hxI, hx]
  have := run_convert_bytes_arg (P := Tryz.prog) (A.alloc (.cells #[.int .u8 (x : Int)] 5)) 97 5 Tryz.underlying97 Tryz.underlying5 A.heap.size 0 1 1 [(x : Int)] (by simp) (fun i hi => by
   obtain rfl : i = 0 := by omega
   exact (Has.new A 5 #[.int .u8 (x : Int)]).cell 0 _ rfl) dst hd
  rw [this]; simp [strOfNums]
 have hst := hid (show (⟨#[UInt8.ofNat (kind + 55 + m)]⟩ : ByteArray) ++ ⟨(digs n).toArray⟩ = ⟨(headL kind n).toArray⟩ by
  rw [hS.out, hm]
  apply ByteArray.ext
  simp)
 clear hS hx hxI hdl hm
 have hb1 : (⟨#[UInt8.ofNat (kind + 55 + m)]⟩ : ByteArray).size = 1 := rfl
 generalize (⟨#[UInt8.ofNat (kind + 55 + m)]⟩ : ByteArray) = b1 at *
 unfold txtV strV at HN
 unfold strV
 generalize (⟨(headL kind n).toArray⟩ : ByteArray) = hl at *
 generalize (⟨(digs n).toArray⟩ : ByteArray) = sd at *
 replace hcv := hid hcv
 replace hn := hid hn
 go_enter Tryz.func122, Tryz.ntmps122
 go_wp2_with fail
 refine (HO.out _).mono ?_
 rintro _ W2 ⟨rfl, q⟩
 have Q := hid q
 clear q
 go_wp2_with fail
 refine (HN.out _).mono ?_
 rintro _ W3 ⟨rfl, q⟩
 have Q2 := Q.out.trans (q.mono Q.out.size)
 replace Q := hid (Q2.alloc Q2.size (.cells #[.int .u8 ((kind : Int) + 55 + (m : Int))] 5))
 have hc3 := hcv.out W3
 clear Q2
 have hf3 := itemField1 false sd none 0 0 W3
 clear q hcv
 go_wp2_with fail
 go_ret
 exact ⟨by rw [← hst.out]; rfl, Q.out⟩
theorem headOf_ret (kind n : Nat) (hk : kind = 128 ∨ kind = 192) (hn2 : n ≤ 4611686018427387903) : Ret Tryz.prog 122 #[.int .i64 (kind : Int), .int .i64 (n : Int)] (strV (headL kind n)) := by
 by_cases h : n ≤ 55
 ·exact headOf_short kind n hk h
 ·exact headOf_long kind n hk (by omega) hn2
def headI (t : It) (n : Nat) : List UInt8 := if t.list then headL 192 n else if bareB t.bytes.data.toList then [] else headL 128 n
theorem head_any (t : It) (n : Nat) (hn : n ≤ 4611686018427387903) (v : Value) (w : World) (ht : ItemAt w t v) : Calls Tryz.prog 96 #[v, .int .i64 (n : Int)] w fun e w' => e = .returned (strV (headI t n)) ∧ Below w.heap.size w w' := by
 obtain ⟨a, cap, rfl, hkn, hs, hk⟩ := ht.open
 clear ht hk hkn
 have HB := hid (fun w => bare_any t.bytes.data.toList (by simpa using hs) w)
 have HL := hid (headOf_ret 192 n (.inr rfl) hn)
 have HT := hid (headOf_ret 128 n (.inl rfl) hn)
 have hR := hid (show headI t n = if t.list then headL 192 n else if bareB t.bytes.data.toList then [] else headL 128 n from rfl)
 have hbs : strV t.bytes.data.toList = .string t.bytes := rfl
 rw [hbs] at HB
 clear hbs
 have hnI : (n : Int) ≤ 4611686018427387903 := by omega
 have hn0 : (0 : Int) ≤ (n : Int) := by omega
 replace hn := hid hn
 generalize headI t n = R at *
 generalize t.list = l at *
 generalize bareB t.bytes.data.toList = bb at *
 generalize t.bytes = b at *
 generalize t.kids.length = kn at *
 obtain ⟨W1, hW1, LX, Q⟩ := newBox w 78 #[.bool l, .string b, .slice a kn cap]
 have k0 := LX.cell 0 _ rfl
 have k1 := LX.cell 1 _ rfl
 have k2 := LX.cell 2 _ rfl
 replace LX := hid LX
 replace Q := hid Q
 have hmx : Tryz.prog.follows .mixedOrders = true := by kernel_rfl
 cases l with
 | true =>
  go_enter Tryz.func96, Tryz.ntmps96
  go_wp2_with fail
  refine (HL.out _).mono ?_
  rintro _ W2 ⟨rfl, q⟩
  replace Q := hid (Q.out.trans (q.mono Q.out.size))
  clear q
  go_wp2_with fail
  go_ret
  exact ⟨by rw [hR.out]; rfl, Q.out⟩
 | false =>
  cases bb with
  | true =>
   go_enter Tryz.func96, Tryz.ntmps96
   go_wp2_with fail
   refine (HB.out _).mono ?_
   rintro _ W2 ⟨rfl, rfl⟩
   go_wp2_with fail
   go_ret
   exact ⟨by rw [hR.out]; rfl, Q.out⟩
  | false =>
   go_enter Tryz.func96, Tryz.ntmps96
   go_wp2_with fail
   refine (HB.out _).mono ?_
   rintro _ W2 ⟨rfl, rfl⟩
   go_wp2_with fail
   refine (HT.out _).mono ?_
   rintro _ W2 ⟨rfl, q⟩
   replace Q := hid (Q.out.trans (q.mono Q.out.size))
   clear q
   go_wp2_with fail
   go_ret
   exact ⟨by rw [hR.out]; rfl, Q.out⟩
end Go.Proofs.YtkicmbdjihjgfaaGreatDoor
