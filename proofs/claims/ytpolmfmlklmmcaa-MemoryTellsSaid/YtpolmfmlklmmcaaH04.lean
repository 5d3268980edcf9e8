/- Part. -/
import Derived.Test.YtpolmfmlklmmcaaH03
import Derived.Test.YtpolmfmlklmmcaaH01
import Derived.Laws.StructEq
import Derived.Laws.Cover2
import Derived.Lib.Hide
import Derived.Test.YtpolmfmlklmmcaaH02
set_option maxRecDepth 100000
set_option maxHeartbeats 16000000
namespace Go.Proofs.Ytpolmfmlklmmcaa
section
open Go Go.RowKit Go.Shelf
attribute [local go_sem] Oper.semAt_some Grows wide_fn
def NumSt (w : World) (K : Kind) (s : ByteArray) (k : Nat) (W : World) : Prop :=
 ∃ m, numFrom K 0 (s.data.toList.take (7 * k)) = some m ∧ W256 m ∧ (Arr4 W w.heap.size 24 (fun _ => 0) ∧ Boxed W (w.heap.size + 1) 4 (.bool false) ∧ Arr4 W (w.heap.size + 1 + 1) 24 (lim m) ∧ Boxed W (w.heap.size + 1 + 1 + 1) 9 (.string s)) ∧ Below w.heap.size w W
theorem NumSt.own (w : World) (K : Kind) (s : ByteArray) (B : Nat) (hB : w.heap.size ≤ B) : OwnFrom B (fun k W => NumSt w K s k W) := by
 rintro k X Y row ⟨m, h1, h2, ⟨b0, b1, b2, b3⟩, h4⟩ hg hr
 have hr' : ∀ r, row = some r → ∃ o : Obj, X.heap[r]? = some o ∧ o.isCells = false := fun r e => (hr r e).2
 exact ⟨m, h1, h2, ⟨Arr4.own _ _ (fun _ : Unit => fun _ => 0) () X Y row b0 hg hr', boxed_own _ _ (fun _ : Unit => _) () X Y row b1 hg hr', Arr4.own _ _ (fun _ : Unit => _) () X Y row b2 hg hr', boxed_own _ _ (fun _ : Unit => _) () X Y row b3 hg hr'⟩,
  ownFrom_below (β := Unit) (Nat.le_refl _) hB () X Y row h4 hg hr⟩
def NumBad (w : World) (W : World) : Prop := Arr4 W w.heap.size 24 (fun _ => 0) ∧ Boxed W (w.heap.size + 1) 4 (.bool false) ∧ Below w.heap.size w W
theorem NumBad.own (w : World) (B : Nat) (hB : w.heap.size ≤ B) : OwnFrom B (fun (_ : Nat) W => NumBad w W) := by
 rintro k X Y row ⟨b0, b1, h4⟩ hg hr
 have hr' : ∀ r, row = some r → ∃ o : Obj, X.heap[r]? = some o ∧ o.isCells = false := fun r e => (hr r e).2
 exact ⟨Arr4.own _ _ (fun _ : Unit => fun _ => 0) () X Y row b0 hg hr', boxed_own _ _ (fun _ : Unit => _) () X Y row b1 hg hr', ownFrom_below (β := Unit) (Nat.le_refl _) hB () X Y row h4 hg hr⟩
theorem Arr4.store0 {W : World} {B : Nat} {t : TypeId} (h : Arr4 W B t (fun _ => 0)) :
  Arr4 ((((W.setCell ⟨B, 0, none⟩ (.int .u64 0)).setCell ⟨B, 1, none⟩ (.int .u64 0)).setCell ⟨B, 2, none⟩ (.int .u64 0)).setCell ⟨B, 3, none⟩ (.int .u64 0)) B t (fun _ => 0) := h.store (fun _ => 0)
theorem Boxed.refix {W : World} {B : Nat} {t : TypeId} {v : Value} (h : Boxed W B t v) : Boxed (W.setCell ⟨B, 0, none⟩ v) B t v := h.set v
theorem number_oct (s : ByteArray) (hs : s.size ≤ 140737488355328) : Ret Try.prog 57 #[.string s] (numV octK s.data.toList) := by
 intro w
 have h1 : 1 ≤ 4 := by omega
 refine (callsIn_wide (n := 4)).1 ?_
 refine callsIn_of_wp_marks Try.func57 rfl trivial ?_ rfl
 simp only [Try.ntmps57, List.size_toArray, List.length_cons, List.length_nil, Nat.reduceAdd, Nat.reduceSub, Array.replicate_succ, Array.replicate_zero, List.push_toArray, List.append_toArray, List.nil_append, List.cons_append]
 gi_wp2_with (gi_at_call 68; refine (callsIn_free free_wide (pieces_any _ _)).mono ?_; rintro e w' ⟨rfl, rfl⟩)
 obtain ⟨W0, hW0⟩ : ∃ W0, ((((w.alloc (.cells #[.int .u64 0, .int .u64 0, .int .u64 0, .int .u64 0] 24)).alloc (.cells #[.bool false] 4)).alloc (.cells #[.int .u64 0, .int .u64 0, .int .u64 0, .int .u64 0] 24)).alloc (.cells #[.string s] 9)) = W0 := ⟨_, rfl⟩
 have hsz : W0.heap.size = w.heap.size + 4 := by rw [← hW0]; simp
 have hJ0 : NumSt w octK s 0 W0 := by
  rw [← hW0]
  refine ⟨0, rfl, by unfold W256; decide, ⟨?_, ?_, ?_, ?_⟩, ((((Below.refl _ w).alloc (Nat.le_refl _) _).alloc (by simp) _).alloc (by simp; omega) _).alloc (by simp; omega) _⟩
  ·have h := World.alloc_heap_new w (.cells #[.int .u64 0, .int .u64 0, .int .u64 0, .int .u64 0] 24)
   exact (((Arr4.alloc (m := fun _ => 0) h _).alloc _).alloc _)
  ·have h := Boxed.new (w.alloc (.cells #[.int .u64 0, .int .u64 0, .int .u64 0, .int .u64 0] 24)) 4 (.bool false)
   rw [World.size_alloc] at h
   exact (h.alloc _).alloc _
  ·have h := World.alloc_heap_new ((w.alloc (.cells #[.int .u64 0, .int .u64 0, .int .u64 0, .int .u64 0] 24)).alloc (.cells #[.bool false] 4)) (.cells #[.int .u64 0, .int .u64 0, .int .u64 0, .int .u64 0] 24)
   rw [World.size_alloc, World.size_alloc] at h
   exact Arr4.alloc (m := lim 0) h _
  ·have h := Boxed.new (((w.alloc (.cells #[.int .u64 0, .int .u64 0, .int .u64 0, .int .u64 0] 24)).alloc (.cells #[.bool false] 4)).alloc (.cells #[.int .u64 0, .int .u64 0, .int .u64 0, .int .u64 0] 24)) 9 (.string s)
   simpa using h
 rw [hW0]
 clear hW0
 have hcP := hJ0
 obtain ⟨_, _, _, ⟨_, _, _, bP⟩, _⟩ := hcP
 refine wpIn_rangeFunc_N1 rfl h1 (gf := 75) (lb := #[.pointer (some ⟨w.heap.size + 1 + 1 + 1, 0, none⟩)]) rfl trivial (enters_of Try.func75 (by kernel_rfl) rfl)
  (pieces_seq _ (by omega) _ s hs W0 (by omega) bP.cell) KeepsAt.trans (KeepsAt.refl _) (KeepsAt.b (by simp; omega)) (fun _ _ => rfl)
  (fun k W => NumSt w octK s k W)
  (fun c k W => c = .ret ∧ Hid (numV octK s.data.toList = .tuple #[.agg #[.int .u64 0, .int .u64 0, .int .u64 0, .int .u64 0], .bool false]) ∧ NumBad w W)
  (NumSt.own w octK s _ (by omega))
  (fun c => OwnFrom.and (ownFrom_pure _ _) (OwnFrom.and (ownFrom_pure _ _) (NumBad.own w _ (by omega))))
  hJ0
  (fun k => { tmps := #[.string s, undef, .pointer (some ⟨w.heap.size, 0, none⟩), .pointer (some ⟨w.heap.size + 1, 0, none⟩), .pointer (some ⟨w.heap.size + 1 + 1, 0, none⟩), .string (piece s k), undef, undef, undef, undef, .agg #[.int .u64 0, .int .u64 0, .int .u64 0, .int .u64 0], .string s, .func (.func 75) #[] #[.pointer (some ⟨w.heap.size + 1 + 1 + 1, 0, none⟩)], .string (piece s k), undef, undef, undef, undef, undef, undef, undef, undef, undef, undef, undef, undef, undef, undef, undef, undef, undef, undef, undef], defers := [] }) ?assign ?body ?done ?stop
 case assign =>
  intro l k W K _ hK
  gi_wp2
  exact hK
 case body =>
  rintro l k W _ hkN ⟨m, hm, hm256, ⟨b0, b1, b2, b3⟩, hB⟩
  have hsm := small_oct (piece s k) (piece_size s k)
  have c0 := b0.cell (j := 0) (by omega)
  have c1 := b0.cell (j := 1) (by omega)
  have c2 := b0.cell (j := 2) (by omega)
  have c3 := b0.cell (j := 3) (by omega)
  have f0 := b0.frozen 0
  have f1 := b0.frozen 1
  have f2 := b0.frozen 2
  have f3 := b0.frozen 3
  have d1 := b1.cell
  have g1 := b1.frozen
  have hl1 := b1.lt
  have hl2 := b2.lt
  have hl3 := b3.lt
  cases hd : numFrom octK 0 (piece s k).data.toList with
  | none =>
   have hv : smallV octK (piece s k).data.toList = .tuple #[.int .u64 0, .int .u64 0, .bool false] := by unfold smallV; rw [hd]
   rw [hv] at hsm
   have HS := Lib.hid hsm
   have HBAD : Hid (numV octK s.data.toList = .tuple #[.agg #[.int .u64 0, .int .u64 0, .int .u64 0, .int .u64 0], .bool false]) := numV_bad _ _ _ (numFrom_piece_none octK s k m hm hd)
   have HW := Lib.hid (show NumBad w W from ⟨b0, b1, hB⟩)
   clear hv hd hsm hm hm256 b0 b1 b2 b3 hB hJ0 bP
   gi_wp2_with (gi_at_call 69; refine (callsIn_free (free_round l) (HS.out _)).mono ?_; rintro e w' ⟨rfl, rfl⟩)
   obtain ⟨b0, b1, hB⟩ := HW.out
   exact ⟨((((((KeepsOthers.setCell _ _ _).trans (KeepsOthers.setCell _ _ _)).trans (KeepsOthers.setCell _ _ _)).trans (KeepsOthers.setCell _ _ _)).trans (KeepsOthers.setCell _ _ _))).from _, rfl, HBAD,
    Arr4.other b0.store0 (by simp) _, Boxed.refix (Boxed.away (Boxed.away (Boxed.away (Boxed.away b1 (by simp) _) (by simp) _) (by simp) _) (by simp) _), ((((hB.setCell (p := ⟨w.heap.size, 0, none⟩) (by simp) _).setCell (p := ⟨w.heap.size, 1, none⟩) (by simp) _).setCell (p := ⟨w.heap.size, 2, none⟩) (by simp) _).setCell (p := ⟨w.heap.size, 3, none⟩) (by simp) _).setCell (p := ⟨w.heap.size + 1, 0, none⟩) (by simp) _⟩
  | some n =>
   have hv : smallV octK (piece s k).data.toList = .tuple #[.int .u64 (n : Int), .int .u64 ((octK.base ^ (piece s k).data.toList.length : Nat) : Int), .bool true] := by unfold smallV; rw [hd]
   rw [hv] at hsm
   have hn := small_lt octK s k n hd
   have hu := unit_lt octK s k
   have hnext := numFrom_piece octK s k m n hm hd
   generalize octK.base ^ (piece s k).data.toList.length = U at *
   obtain ⟨hp1, hp2⟩ := scale_parts m U n hm256 hu hn
   have hsc := fun W' h1 h2 => scale_any (lim m) (U : Int) (n : Int) (lim_u64 m) ⟨by omega, by omega⟩ ⟨by omega, by omega⟩ (w.heap.size + 1 + 1) W' h1 h2
   rw [hp1 0 (by omega), hp1 1 (by omega), hp1 2 (by omega), hp1 3 (by omega), hp2] at hsc
   have HS := Lib.hid hsm
   have HSC := Lib.hid (hsc W b2.lt (fun j hj => b2.cell hj))
   have HW := Lib.hid (show Arr4 W w.heap.size 24 (fun _ => 0) ∧ Boxed W (w.heap.size + 1) 4 (.bool false) ∧ Arr4 W (w.heap.size + 1 + 1) 24 (lim m) ∧ Boxed W (w.heap.size + 1 + 1 + 1) 9 (.string s) ∧ Below w.heap.size w W from ⟨b0, b1, b2, b3, hB⟩)
   by_cases hgr : m * U + n < 115792089237316195423570985008687907853269984665640564039457584007913129639936
   ·have h0 : (((m * U + n) / 115792089237316195423570985008687907853269984665640564039457584007913129639936 : Nat) : Int) = 0 := by rw [Nat.div_eq_of_lt hgr]; rfl
    rw [h0] at HSC
    rw [wmod_of hgr] at HSC
    have HN := Lib.hid hnext
    have HG : Hid (W256 (m * U + n)) := hgr
    clear hv hd hsm hm hm256 b0 b1 b2 b3 hB hJ0 bP hsc hp1 hp2 hnext hgr h0 hn hu
    generalize m * U + n = m' at *
    gi_wp2_with fail
    refine (callsIn_free (free_round l) (HS.out _)).mono ?_
    rintro e w' ⟨rfl, rfl⟩
    clear HS
    gi_wp2_with fail
    refine (callsIn_free (free_round l) HSC.out).mono ?_
    rintro e w1 ⟨rfl, hb1⟩
    obtain ⟨b0, b1, b2, b3, hB⟩ := HW.out
    have a0 := Arr4.below b0 hb1 b0.lt
    have a1 := Boxed.below b1 hb1 b1.lt
    have a2 := Arr4.below b2 hb1 b2.lt
    have a3 := Boxed.below b3 hb1 b3.lt
    have BB := hB.trans (hb1.mono hB.size)
    have KF : KeepsFrom W0.heap.size W w1 := ⟨hb1.size, fun k o _ h _ => (hb1.block k (Array.getElem?_eq_some_iff.1 h).1).trans h⟩
    have KA : KeepsAt [w.heap.size + 1 + 1 + 1] W w1 := (KeepsAt.refl _ W).below hb1 (fun b hb => by simp at hb; omega)
    have k0 := a2.cell (j := 0) (by omega)
    have k1 := a2.cell (j := 1) (by omega)
    have k2 := a2.cell (j := 2) (by omega)
    have k3 := a2.cell (j := 3) (by omega)
    have z0 := a2.frozen 0
    have z1 := a2.frozen 1
    have z2 := a2.frozen 2
    have z3 := a2.frozen 3
    have HA := Lib.hid (And.intro a0 (And.intro a1 (And.intro a2 (And.intro a3 BB))))
    have HK := Lib.hid (And.intro KF KA)
    clear a0 a1 a2 a3 BB b0 b1 b2 b3 hB hb1 HW HSC KF KA c0 c1 c2 c3 d1 f0 f1 f2 f3 g1
    gi_wp2
    obtain ⟨a0, a1, a2, a3, BB⟩ := HA.out
    obtain ⟨KF, KA⟩ := HK.out
    refine ⟨KF.trans (((((KeepsOthers.setCell _ _ _).trans (KeepsOthers.setCell _ _ _)).trans (KeepsOthers.setCell _ _ _)).trans (KeepsOthers.setCell _ _ _)).from _), (((KA.setCell (by simp) _).setCell (by simp) _).setCell (by simp) _).setCell (by simp) _, m', HN.out, HG.out, ⟨?_, ?_, ?_, ?_⟩, ?_⟩
    ·exact Arr4.other (Arr4.other (Arr4.other (Arr4.other a0 (by simp; omega) _) (by simp; omega) _) (by simp; omega) _) (by simp; omega) _
    ·exact Boxed.away (Boxed.away (Boxed.away (Boxed.away a1 (by simp) _) (by simp) _) (by simp) _) (by simp) _
    ·exact Arr4.store a2 (lim m')
    ·exact Boxed.away (Boxed.away (Boxed.away (Boxed.away a3 (by simp) _) (by simp) _) (by simp) _) (by simp) _
    ·exact (((BB.setCell (p := ⟨w.heap.size + 1 + 1, 0, none⟩) (by simp; omega) _).setCell (p := ⟨w.heap.size + 1 + 1, 1, none⟩) (by simp; omega) _).setCell (p := ⟨w.heap.size + 1 + 1, 2, none⟩) (by simp; omega) _).setCell (p := ⟨w.heap.size + 1 + 1, 3, none⟩) (by simp; omega) _
   ·have HBAD : Hid (numV octK s.data.toList = .tuple #[.agg #[.int .u64 0, .int .u64 0, .int .u64 0, .int .u64 0], .bool false]) := numV_great _ _ _ _ hnext hgr
    have h0 : (((((m * U + n) / 115792089237316195423570985008687907853269984665640564039457584007913129639936 : Nat) : Int) != 0) = true) := by
     have : 1 ≤ (m * U + n) / 115792089237316195423570985008687907853269984665640564039457584007913129639936 := (Nat.le_div_iff_mul_le (by decide)).2 (by omega)
     simp; omega
    generalize (((m * U + n) / 115792089237316195423570985008687907853269984665640564039457584007913129639936 : Nat) : Int) = q at *
    clear hv hd hsm hm hm256 b0 b1 b2 b3 hB hJ0 bP hsc hp1 hp2 hnext hgr hn hu
    generalize wmod (m * U + n) = m' at *
    gi_wp2_with fail
    refine (callsIn_free (free_round l) (HS.out _)).mono ?_
    rintro e w' ⟨rfl, rfl⟩
    clear HS
    gi_wp2_with fail
    refine (callsIn_free (free_round l) HSC.out).mono ?_
    rintro e w1 ⟨rfl, hb1⟩
    obtain ⟨b0, b1, b2, b3, hB⟩ := HW.out
    have a0 := Arr4.below b0 hb1 b0.lt
    have a1 := Boxed.below b1 hb1 b1.lt
    have a2 := Arr4.below b2 hb1 b2.lt
    have BB := hB.trans (hb1.mono hB.size)
    have KF : KeepsFrom W0.heap.size W w1 := ⟨hb1.size, fun k o _ h _ => (hb1.block k (Array.getElem?_eq_some_iff.1 h).1).trans h⟩
    have k0 := a2.cell (j := 0) (by omega)
    have k1 := a2.cell (j := 1) (by omega)
    have k2 := a2.cell (j := 2) (by omega)
    have k3 := a2.cell (j := 3) (by omega)
    have z0 := a2.frozen 0
    have z1 := a2.frozen 1
    have z2 := a2.frozen 2
    have z3 := a2.frozen 3
    have i0 := a0.cell (j := 0) (by omega)
    have i1 := a0.cell (j := 1) (by omega)
    have i2 := a0.cell (j := 2) (by omega)
    have i3 := a0.cell (j := 3) (by omega)
    have y0 := a0.frozen 0
    have y1 := a0.frozen 1
    have y2 := a0.frozen 2
    have y3 := a0.frozen 3
    have x1 := a1.cell
    have v1 := a1.frozen
    have HA := Lib.hid (And.intro a0 (And.intro a1 BB))
    have HK := Lib.hid KF
    clear a0 a1 a2 BB b0 b1 b2 b3 hB hb1 HW HSC KF c0 c1 c2 c3 d1 f0 f1 f2 f3 g1
    gi_wp2
    obtain ⟨a0, a1, BB⟩ := HA.out
    have KF := HK.out
    refine ⟨KF.trans ((((((((((KeepsOthers.setCell _ _ _).trans (KeepsOthers.setCell _ _ _)).trans (KeepsOthers.setCell _ _ _)).trans (KeepsOthers.setCell _ _ _)).trans (KeepsOthers.setCell _ _ _)).trans (KeepsOthers.setCell _ _ _)).trans (KeepsOthers.setCell _ _ _)).trans (KeepsOthers.setCell _ _ _)).trans (KeepsOthers.setCell _ _ _)).from _), rfl, HBAD, ?_, ?_, ?_⟩
    ·exact Arr4.other (Arr4.store0 (Arr4.other (Arr4.other (Arr4.other (Arr4.other a0 (by simp; omega) _) (by simp; omega) _) (by simp; omega) _) (by simp; omega) _)) (by simp) _
    ·exact Boxed.refix (Boxed.away (Boxed.away (Boxed.away (Boxed.away (Boxed.away (Boxed.away (Boxed.away (Boxed.away a1 (by simp) _) (by simp) _) (by simp) _) (by simp) _) (by simp) _) (by simp) _) (by simp) _) (by simp) _)
    ·exact ((((((((BB.setCell (p := ⟨w.heap.size + 1 + 1, 0, none⟩) (by simp; omega) _).setCell (p := ⟨w.heap.size + 1 + 1, 1, none⟩) (by simp; omega) _).setCell (p := ⟨w.heap.size + 1 + 1, 2, none⟩) (by simp; omega) _).setCell (p := ⟨w.heap.size + 1 + 1, 3, none⟩) (by simp; omega) _).setCell (p := ⟨w.heap.size, 0, none⟩) (by simp) _).setCell (p := ⟨w.heap.size, 1, none⟩) (by simp) _).setCell (p := ⟨w.heap.size, 2, none⟩) (by simp) _).setCell (p := ⟨w.heap.size, 3, none⟩) (by simp) _).setCell (p := ⟨w.heap.size + 1, 0, none⟩) (by simp) _
 case done =>
  rintro D W hD ⟨m, hm, hm256, ⟨b0, b1, b2, b3⟩, hB⟩ hK
  have hfull : s.data.toList.take (7 * ((s.size + 6) / 7)) = s.data.toList := List.take_of_length_le (by simp; omega)
  rw [hfull] at hm
  have HV := Lib.hid (numV_good octK _ m hm hm256)
  have c0 := b2.cell (j := 0) (by omega)
  have c1 := b2.cell (j := 1) (by omega)
  have c2 := b2.cell (j := 2) (by omega)
  have c3 := b2.cell (j := 3) (by omega)
  have i0 := b0.cell (j := 0) (by omega)
  have i1 := b0.cell (j := 1) (by omega)
  have i2 := b0.cell (j := 2) (by omega)
  have i3 := b0.cell (j := 3) (by omega)
  have f0 := b0.frozen 0
  have f1 := b0.frozen 1
  have f2 := b0.frozen 2
  have f3 := b0.frozen 3
  have d1 := b1.cell
  have g1 := b1.frozen
  have HA := Lib.hid (And.intro b0 (And.intro b1 hB))
  have HK := Lib.hid hK
  clear b0 b1 b2 b3 hB hK hfull hm hm256 hJ0 bP
  gi_wp2
  obtain ⟨b0, b1, hB⟩ := HA.out
  have hK' := (((((KeepsOthers.setCell W ⟨w.heap.size, 0, none⟩ (.int .u64 (lim m 0))).trans (KeepsOthers.setCell _ ⟨w.heap.size, 1, none⟩ (.int .u64 (lim m 1)))).trans (KeepsOthers.setCell _ ⟨w.heap.size, 2, none⟩ (.int .u64 (lim m 2)))).trans (KeepsOthers.setCell _ ⟨w.heap.size, 3, none⟩ (.int .u64 (lim m 3)))).trans (KeepsOthers.setCell _ ⟨w.heap.size + 1, 0, none⟩ (.bool true))).same D _ HK.out rfl
  have a0 := Arr4.other (b0.store (lim m)) (p := ⟨w.heap.size + 1, 0, none⟩) (by simp) (.bool true)
  have a1 := Boxed.set (.bool true) (Boxed.away (Boxed.away (Boxed.away (Boxed.away b1 (p := ⟨w.heap.size, 0, none⟩) (by simp) (.int .u64 (lim m 0))) (p := ⟨w.heap.size, 1, none⟩) (by simp) (.int .u64 (lim m 1))) (p := ⟨w.heap.size, 2, none⟩) (by simp) (.int .u64 (lim m 2))) (p := ⟨w.heap.size, 3, none⟩) (by simp) (.int .u64 (lim m 3)))
  have a0' := Arr4.kept a0 (grownBy_putObj' _ D (.deferred none)) (fun e => by cases e; have := (show _ = _ from a0).symm.trans hK'; cases this)
  have a1' := Boxed.kept a1 (grownBy_putObj' _ D (.deferred none)) (fun e => by cases e; have := (show _ = _ from a1).symm.trans hK'; cases this)
  have e0 := a0'.cell (j := 0) (by omega)
  have e1 := a0'.cell (j := 1) (by omega)
  have e2 := a0'.cell (j := 2) (by omega)
  have e3 := a0'.cell (j := 3) (by omega)
  have e4 := a1'.cell
  refine ⟨by simp, .inl ⟨_, _, rfl, run_takeDeferred hK', ?_⟩⟩
  exact ⟨_, (by simp [results, Try.f57, go_sem, e0, e1, e2, e3, e4]; rfl), by rw [HV.out],
   ((((((hB.setCell (p := ⟨w.heap.size, 0, none⟩) (by simp) _).setCell (p := ⟨w.heap.size, 1, none⟩) (by simp) _).setCell (p := ⟨w.heap.size, 2, none⟩) (by simp) _).setCell (p := ⟨w.heap.size, 3, none⟩) (by simp) _).setCell (p := ⟨w.heap.size + 1, 0, none⟩) (by simp) _)).trans (belowK_b (w := w) (Nat.le_refl _) _ D _ _ (by omega) hK' rfl rfl)⟩
 case stop =>
  rintro D c k W hD hkN ⟨rfl, hbad, ⟨b0, b1, hB⟩⟩ hK
  have HA := Lib.hid (And.intro b0 (And.intro b1 hB))
  have HK := Lib.hid hK
  clear b0 b1 hB hK hJ0 bP
  gi_wp2
  obtain ⟨a0, a1, hB⟩ := HA.out
  have hK' := HK.out
  have a0' := Arr4.kept a0 (grownBy_putObj' _ D (.deferred none)) (fun e => by cases e; have := (show _ = _ from a0).symm.trans hK'; cases this)
  have a1' := Boxed.kept a1 (grownBy_putObj' _ D (.deferred none)) (fun e => by cases e; have := (show _ = _ from a1).symm.trans hK'; cases this)
  have e0 := a0'.cell (j := 0) (by omega)
  have e1 := a0'.cell (j := 1) (by omega)
  have e2 := a0'.cell (j := 2) (by omega)
  have e3 := a0'.cell (j := 3) (by omega)
  have e4 := a1'.cell
  refine ⟨by simp, .inl ⟨_, _, rfl, run_takeDeferred hK', ?_⟩⟩
  exact ⟨_, (by simp [results, Try.f57, go_sem, e0, e1, e2, e3, e4]; rfl), by rw [hbad.out],
   hB.trans (belowK_b (w := w) (Nat.le_refl _) _ D _ _ (by omega) hK' rfl rfl)⟩
def octVal : Nat → List UInt8 → Nat
 | n, [] => n
 | n, c :: r => octVal (n * 256 + c.toNat) r
theorem numFrom_oct : ∀ (l : List UInt8) (n : Nat), numFrom octK n l = some (octVal n l)
 | [], _ => rfl
 | c :: r, n => numFrom_oct r (n * 256 + c.toNat)
theorem octVal_lt (l : List UInt8) : octVal 0 l < 256 ^ l.length := by
 have h := numFrom_lt octK l 0 _ (numFrom_oct l 0)
 rw [octK_base] at h
 omega
def fromB (l : List UInt8) : Nat := octVal 0 (l.drop (l.length - 32))
theorem fromB_lt (l : List UInt8) : W256 (fromB l) := by
 unfold fromB
 have h := octVal_lt (l.drop (l.length - 32))
 have h1 : (l.drop (l.length - 32)).length ≤ 32 := by rw [List.length_drop]; omega
 have h2 : 256 ^ (l.drop (l.length - 32)).length ≤ 256 ^ 32 := Nat.pow_le_pow_right (by decide) h1
 have h3 : (256 : Nat) ^ 32 = 115792089237316195423570985008687907853269984665640564039457584007913129639936 := by decide
 unfold W256
 omega
theorem numV_oct (l : List UInt8) : numV octK (l.drop (l.length - 32)) = .tuple #[wv (fromB l), .bool true] :=
 numV_good octK _ (fromB l) (numFrom_oct _ 0) (fromB_lt l)
theorem fromBytes_ret (s : ByteArray) (hs : s.size ≤ 140737488355328) : Ret Try.prog 41 #[.string s] (wv (fromB s.data.toList)) := by
 intro w
 have A0 := World.alloc_heap_new w (.cells #[.int .u64 0, .int .u64 0, .int .u64 0, .int .u64 0] 24)
 have core : ∀ t : ByteArray, t.data.toList = s.data.toList.drop (s.data.toList.length - 32) → Ret Try.prog 57 #[.string t] (.tuple #[wv (fromB s.data.toList), .bool true]) := fun t ht => by
  have hsz : t.size ≤ 140737488355328 := by
   have h1 : t.data.toList.length = t.size := by simp
   have h2 : s.data.toList.length = s.size := by simp
   rw [ht, List.length_drop, h2] at h1
   omega
  have h := number_oct t hsz
  rw [ht, numV_oct] at h
  exact h
 have h32 : s.data.toList.length = s.size := by simp
 by_cases hlong : 32 < s.size
 ·have hc := core (s.extract (s.size - 32) s.size) (by rw [extract_list, h32, List.take_of_length_le (by rw [List.length_drop, h32]; omega)])
  have z1 : (0 : Int) < (s.size : Int) - 32 := by omega
  have z2 : (s.size : Int) - 32 ≤ (s.size : Int) := by omega
  have z4 : (s.size : Int) ≤ 1000000000000000 := by omega
  have HC := Lib.hid hc
  generalize fromB s.data.toList = n at *
  unfold wv at HC ⊢
  clear hc core h32 hlong hs
  go_enter Try.func41, Try.ntmps41
  go_wp2_with fail
  refine (HC.out _).mono ?_
  rintro e w1 ⟨rfl, hb1⟩
  have A4 : Arr4 w1 w.heap.size 24 (fun _ => 0) := Arr4.below (m := fun _ => 0) A0 hb1 (by simp)
  have BB := ((Below.refl _ w).alloc (Nat.le_refl _) (.cells #[.int .u64 0, .int .u64 0, .int .u64 0, .int .u64 0] 24)).trans (hb1.mono (by simp))
  have hz := BB.size
  have hz2 := A4.lt
  have c0 := A4.cell (j := 0) (by omega)
  have c1 := A4.cell (j := 1) (by omega)
  have c2 := A4.cell (j := 2) (by omega)
  have c3 := A4.cell (j := 3) (by omega)
  have f0 := A4.frozen 0
  have f1 := A4.frozen 1
  have f2 := A4.frozen 2
  have f3 := A4.frozen 3
  replace A4 := Lib.hid A4
  clear A0 hb1 HC
  go_wp2
  refine bodyPost_ret (results_word rfl rfl ((A4.out.store _).alloc _)) rfl ⟨rfl, ?_⟩
  (repeat (first | exact BB | refine Below.setCell ?_ (by first | omega | (simp; done) | (simp; omega)) _ | refine Below.alloc ?_ (by first | omega | (simp; done) | (simp; omega)) _ | refine Below.drew ?_))
 ·have hc := core s (by rw [h32, show s.size - 32 = 0 by omega, List.drop_zero])
  have z1 : (s.size : Int) - 32 ≤ 0 := by omega
  have z4 : (s.size : Int) ≤ 1000000000000000 := by omega
  have HC := Lib.hid hc
  generalize fromB s.data.toList = n at *
  unfold wv at HC ⊢
  clear hc core h32 hlong hs
  go_enter Try.func41, Try.ntmps41
  go_wp2_with fail
  refine (HC.out _).mono ?_
  rintro e w1 ⟨rfl, hb1⟩
  have A4 : Arr4 w1 w.heap.size 24 (fun _ => 0) := Arr4.below (m := fun _ => 0) A0 hb1 (by simp)
  have BB := ((Below.refl _ w).alloc (Nat.le_refl _) (.cells #[.int .u64 0, .int .u64 0, .int .u64 0, .int .u64 0] 24)).trans (hb1.mono (by simp))
  have hz := BB.size
  have hz2 := A4.lt
  have c0 := A4.cell (j := 0) (by omega)
  have c1 := A4.cell (j := 1) (by omega)
  have c2 := A4.cell (j := 2) (by omega)
  have c3 := A4.cell (j := 3) (by omega)
  have f0 := A4.frozen 0
  have f1 := A4.frozen 1
  have f2 := A4.frozen 2
  have f3 := A4.frozen 3
  replace A4 := Lib.hid A4
  clear A0 hb1 HC
  go_wp2
  refine bodyPost_ret (results_word rfl rfl ((A4.out.store _).alloc _)) rfl ⟨rfl, ?_⟩
  (repeat (first | exact BB | refine Below.setCell ?_ (by first | omega | (simp; done) | (simp; omega)) _ | refine Below.alloc ?_ (by first | omega | (simp; done) | (simp; omega)) _ | refine Below.drew ?_))
def badDigits (d : List UInt8) : Prop := d = [] ∨ (d.head? = some 48 ∧ d ≠ [48])
instance (d : List UInt8) : Decidable (badDigits d) := by unfold badDigits; infer_instance
theorem results_wordE {fn : Func} {t u : Tmp} {tmps : Array Value} {W : World} {B : Nat} {m : Nat → Int} (h : fn.results = #[ResultVar.cell t 24, ResultVar.tmp u]) (ht : tmps.getD t undef = .pointer (some ⟨B, 0, none⟩)) (hA : Arr4 W B 24 m) :
  (results fn tmps).run Try.prog W = .ok (.tuple #[.agg #[.int .u64 (m 0), .int .u64 (m 1), .int .u64 (m 2), .int .u64 (m 3)], tmps.getD u undef]) W := by
 have e0 := hA.cell (j := 0) (by omega)
 have e1 := hA.cell (j := 1) (by omega)
 have e2 := hA.cell (j := 2) (by omega)
 have e3 := hA.cell (j := 3) (by omega)
 simp at ht
 simp [results, h, ht, go_sem, e0, e1, e2, e3]
end
section
open Go Go.RowKit Go.BigFrame
def upd {α : Type} (f : Nat → α) (i : Nat) (u : α) : Nat → α := fun j => if j = i then u else f j
theorem upd_self {α : Type} (f : Nat → α) (i : Nat) (u : α) : upd f i u i = u := by simp [upd]
theorem upd_ne {α : Type} (f : Nat → α) {i j : Nat} (u : α) (h : j ≠ i) : upd f i u j = f j := by simp [upd, h]
def putsG (f : Nat → Bool) (g : Nat → Value) : Nat → List Oper → Act → Act
 | _, [], a => a
 | k, o :: l, a => putsG f g (k + 1) l (if f k = true then a.put o.dst (g k) else a)
theorem putsG_congr : ∀ (l : List Oper) (k : Nat) (a : Act) (f f' : Nat → Bool) (g g' : Nat → Value), (∀ j, k ≤ j → j < k + l.length → f j = f' j ∧ (f j = true → g j = g' j)) → putsG f g k l a = putsG f' g' k l a
 | [], _, _, _, _, _, _, _ => rfl
 | o :: l, k, a, f, f', g, g', h => by
  simp only [putsG]
  obtain ⟨h1, h2⟩ := h k (Nat.le_refl _) (by simp)
  have e : (if f k = true then a.put o.dst (g k) else a) = (if f' k = true then a.put o.dst (g' k) else a) := by
   rw [← h1]
   split
   ·rename_i ht; rw [h2 ht]
   ·rfl
  rw [e]
  exact putsG_congr l (k + 1) _ f f' g g' (fun j h3 h4 => h j (by omega) (by simp only [List.length_cons]; omega))
theorem putsG_put : ∀ (l : List Oper) (k : Nat) (a : Act) (d : Option Tmp) (u : Value) (f : Nat → Bool) (g : Nat → Value), (∀ o ∈ l, ∀ e, d = some e → o.dst ≠ some e) → putsG f g k l (a.put d u) = (putsG f g k l a).put d u
 | [], _, _, _, _, _, _, _ => rfl
 | o :: l, k, a, d, u, f, g, h => by
  simp only [putsG]
  have hr := fun b => putsG_put l (k + 1) b d u f g (fun o ho => h o (by simp [ho]))
  split
  ·rw [Act.put_comm a u (g k) (h o (by simp)), hr]
  ·rw [hr]
theorem putsG_fire : ∀ (l : List Oper) (k : Nat) (a : Act) (i : Nat) (o : Oper) (u : Value) (f : Nat → Bool) (g : Nat → Value), l[i]? = some o → f (k + i) = false →
  (∀ j oj, l[j]? = some oj → j ≠ i → ∀ e, o.dst = some e → oj.dst ≠ some e) → putsG (upd f (k + i) true) (upd g (k + i) u) k l a = (putsG f g k l a).put o.dst u
 | [], _, _, _, _, _, _, _, h, _, _ => by simp at h
 | p :: l, k, a, 0, o, u, f, g, h, hf, hd => by
  have hp : p = o := by simpa using h
  subst hp
  have hf' : f k = false := by simpa using hf
  simp only [putsG, Nat.add_zero, upd_self, if_true, hf', Bool.false_eq_true, if_false]
  rw [putsG_put l (k + 1) a p.dst u _ _ (fun q hq e he => by
   obtain ⟨j, hj⟩ := List.getElem?_of_mem hq
   exact hd (j + 1) q (by simpa using hj) (by omega) e he)]
  rw [putsG_congr l (k + 1) a (upd f k true) f (upd g k u) g (fun j h1 h2 => ⟨upd_ne _ _ (by omega), fun _ => upd_ne _ _ (by omega)⟩)]
 | p :: l, k, a, i + 1, o, u, f, g, h, hf, hd => by
  simp only [putsG]
  rw [upd_ne _ _ (show k ≠ k + (i + 1) by omega), upd_ne _ _ (show k ≠ k + (i + 1) by omega)]
  have e : k + (i + 1) = (k + 1) + i := by omega
  rw [e]
  exact putsG_fire l (k + 1) _ i o u f g (by simpa using h) (by rw [← e]; exact hf) (fun j oj hj hne e he => hd (j + 1) oj (by simpa using hj) (by omega) e he)
theorem putsG_agree : ∀ (l : List Oper) (k : Nat) (a a' : Act) (f f' : Nat → Bool) (g g' : Nat → Value) (t : Tmp), a.tmps.size = a'.tmps.size → a.tmps[t]? = a'.tmps[t]? →
  (∀ j oj, l[j]? = some oj → oj.dst = some t → f (k + j) = f' (k + j) ∧ (f (k + j) = true → g (k + j) = g' (k + j))) → (putsG f g k l a).tmps[t]? = (putsG f' g' k l a').tmps[t]?
 | [], _, _, _, _, _, _, _, _, _, h, _ => h
 | o :: l, k, a, a', f, f', g, g', t, hs, h, hj => by
  simp only [putsG]
  refine putsG_agree l (k + 1) _ _ f f' g g' t ?_ ?_ (fun j oj hl hd => by
   have := hj (j + 1) oj (by simpa using hl) hd
   rwa [show k + (j + 1) = k + 1 + j by omega] at this)
  ·have hz : ∀ (b : Act) (u : Value), (b.put o.dst u).tmps.size = b.tmps.size := fun b u => by
    cases o.dst <;> simp [Act.put]
   split <;> split <;> simp only [hz, hs]
  ·by_cases hd : o.dst = some t
   ·obtain ⟨h1, h2⟩ := hj 0 o rfl hd
    simp only [Nat.add_zero] at h1 h2
    rw [← h1]
    split
    ·rename_i hf
     rw [h2 hf]
     simp only [Act.put, hd]
     simp only [Array.getElem?_setIfInBounds_self, hs]
    ·exact h
   ·have hp : ∀ (b : Act) (v : Value), (b.put o.dst v).tmps[t]? = b.tmps[t]? := fun b v => by
     cases ho : o.dst with
     | none => rfl
     | some d =>
      have hne : d ≠ t := fun e => hd (by rw [ho, e])
      simp [Act.put, Array.getElem?_setIfInBounds_ne hne]
    split <;> split <;> simp only [hp, h]
section
variable {P : Program} {md : Region.Mode}
variable {ops : Array Oper} {c : List (Option Value)} {deps : List (List Nat)} {U : (Nat → Bool) → (Nat → Value) → World → Prop} {Q : Exit → Act → World → Prop} {f : Nat → Bool} {g : Nat → Value} {w : World}
theorem wanted_same (o : Oper) (a a' : Act) (h : ∀ t ∈ o.looksAt ops, a.tmps[t]? = a'.tmps[t]?) : Region.wanted o (yielded ops a.tmps) = Region.wanted o (yielded ops a'.tmps) := by
 unfold Region.wanted
 cases hg : o.guard with
 | none => rfl
 | some gw =>
  obtain ⟨q, want⟩ := gw
  have hy : yielded ops a.tmps q = yielded ops a'.tmps q := by
   unfold yielded
   cases ht : (ops[q]?).bind (·.dst) with
   | none => rfl
   | some t =>
    simp only [Option.bind_some]
    rw [h t (by simp [Oper.looksAt, hg, ht])]
  simp only [hy]
theorem exec_same (o : Oper) (hs : ∀ cs b, o.op ≠ .select cs b) (a a' : Act) (h : ∀ t ∈ o.looksAt ops, a.tmps[t]? = a'.tmps[t]?) : execOp a.eval o = execOp a'.eval o :=
 execOp_congr o hs fun x hx => by
  cases x with
  | tmp t =>
   have := h t (List.mem_append_left _ (List.mem_filterMap.2 ⟨.tmp t, by simpa using hx, rfl⟩))
   simp only [Act.eval, Array.getD_eq_getD_getElem?, this]
  | _ => rfl
variable {F : Fence} {m : Nat}
theorem exists_ready' {l : List Oper} (hedges : ∀ (j : Nat) (oj : Oper), l[j]? = some oj → ∀ e ∈ oj.after, Region.binds md e = true → e.on < j) {listed : Array Bool} (hc : Closed md l.toArray listed) : ∀ i, listed.getD i true = false → ∃ j, j ∈ Region.ready md l.toArray listed := by
 intro i
 induction i using Nat.strongRecOn with
 | _ i ih =>
  intro hi
  by_cases h : ∃ oi, l.toArray[i]? = some oi ∧ ∃ e ∈ oi.after, Region.binds md e = true ∧ listed.getD e.on false = false
  ·obtain ⟨oi, hoi, e, he, hb, hf⟩ := h
   have hlt := hedges i oi (by simpa using hoi) e he hb
   have hil : i < listed.size := by
    rw [hc.1]; exact (Array.getElem?_eq_some_iff.1 hoi).1
   exact ih e.on hlt (getD_in (by omega) hf)
  ·refine ⟨i, mem_ready.2 ⟨hi, ?_⟩⟩
   have hil : i < l.toArray.size := by
    rw [← hc.1]
    rcases Nat.lt_or_ge i listed.size with h' | h'
    ·exact h'
    ·simp [Array.getElem?_eq_none h'] at hi
   refine ⟨l.toArray[i], by simp [hil], fun e he hb => ?_⟩
   cases hl : listed.getD e.on false with
   | true => rfl
   | false => exact absurd ⟨l.toArray[i], by simp [hil], e, he, hb, hl⟩ h
end
end
section
open Go Go.RowKit
section
variable {P : Program} {md : Region.Mode}
inductive Anc (md : Region.Mode) (ops : Array Oper) : Nat → Nat → Prop
 | one {i j : Nat} (h : Region.waitsFor md ops i j = true) : Anc md ops i j
 | step {i k j : Nat} (h : Region.waitsFor md ops i k = true) (t : Anc md ops k j) : Anc md ops i j
theorem anc_listed {ops : Array Oper} {listed : Array Bool} (hc : Closed md ops listed) {i j : Nat} (h : Anc md ops i j) : listed.getD i false = true → listed.getD j false = true := by
 induction h with
 | one h => exact fun hl => closed_waits hc hl h
 | step h _ ih => exact fun hl => ih (closed_waits hc hl h)
theorem anc_ready {ops : Array Oper} {listed : Array Bool} (hc : Closed md ops listed) {i j : Nat} (h : Anc md ops i j) (hr : i ∈ Region.ready md ops listed) : listed.getD j false = true := by
 cases h with
 | one h => exact ready_waits hr h
 | step h t => exact anc_listed hc t (ready_waits hr h)
structure QuickOk (md : Region.Mode) (l : List Oper) : Prop where
 sel : ∀ (j : Nat) (o : Oper) cs b, l[j]? = some o → o.op ≠ .select cs b
 edges : ∀ (j : Nat) (oj : Oper), l[j]? = some oj → ∀ e ∈ oj.after, Region.binds md e = true → e.on < j
 looks : ∀ (i j : Nat) (oi oj : Oper), l[i]? = some oi → l[j]? = some oj → ∀ d, oj.dst = some d → d ∈ oi.looksAt l.toArray → j < i ∧ Anc md l.toArray i j
 dsts : ∀ (i j : Nat) (oi oj : Oper), l[i]? = some oi → l[j]? = some oj → j ≠ i → ∀ d, oi.dst = some d → oj.dst ≠ some d
def dstBit (o : Oper) : Nat := match o.dst with | some d => 2 ^ d | none => 0
def allBits : List Oper → Nat
 | [] => 0
 | o :: l => dstBit o ||| allBits l
def upBits (md : Region.Mode) (i : Nat) (ms : List Nat) : List Edge → Nat
 | [] => 0
 | e :: r => (if Region.binds md e then ms.getD (i - 1 - e.on) 0 else 0) ||| upBits md i ms r
def looksOp (ops : Array Oper) (o : Oper) (W m : Nat) : Bool := (o.looksAt ops).all fun t => !W.testBit t || m.testBit t
def quickGo (md : Region.Mode) (ops : Array Oper) (W : Nat) : Nat → List Oper → List Nat → Nat → Bool
 | _, [], _, _ => true
 | i, o :: l, ms, seen =>
  (match o.op with | .select .. => false | _ => true) &&
  (o.after.toList.all fun e => !Region.binds md e || decide (e.on < i)) &&
  (match o.dst with | some d => !seen.testBit d | none => true) &&
  (let m := upBits md i ms o.after.toList
   looksOp ops o W m && quickGo md ops W (i + 1) l ((m ||| dstBit o) :: ms) (seen ||| dstBit o))
def quickB (md : Region.Mode) (l : List Oper) : Bool := quickGo md l.toArray (allBits l) 0 l [] 0
theorem dstBit_spec {o : Oper} {t : Nat} : (dstBit o).testBit t = true ↔ o.dst = some t := by
 unfold dstBit
 cases o.dst with
 | none => simp
 | some d => rw [Nat.testBit_two_pow]; simp
theorem allBits_spec : ∀ (l : List Oper) (t : Nat), (allBits l).testBit t = true ↔ ∃ (j : Nat) (o : Oper), l[j]? = some o ∧ o.dst = some t
 | [], t => by simp [allBits]
 | o :: l, t => by
  rw [allBits, Nat.testBit_or, Bool.or_eq_true, dstBit_spec, allBits_spec l t]
  constructor
  ·rintro (h | ⟨j, p, hj, hp⟩)
   ·exact ⟨0, o, rfl, h⟩
   ·exact ⟨j + 1, p, by simpa using hj, hp⟩
  ·rintro ⟨j, p, hj, hp⟩
   cases j with
   | zero =>
    left
    have : o = p := by simpa using hj
    rw [this]
    exact hp
   | succ j => exact .inr ⟨j, p, by simpa using hj, hp⟩
def MaskOk (md : Region.Mode) (l : List Oper) (k m : Nat) : Prop := ∀ t, m.testBit t = true → ∃ (j : Nat) (oj : Oper), l[j]? = some oj ∧ oj.dst = some t ∧ j ≤ k ∧ (j = k ∨ Anc md l.toArray k j)
theorem upBits_spec {l : List Oper} {i : Nat} {ms : List Nat} (hms : ∀ k, k < i → MaskOk md l k (ms.getD (i - 1 - k) 0)) : ∀ (es : List Edge), (∀ e ∈ es, Region.binds md e = true → e.on < i) → ∀ t, (upBits md i ms es).testBit t = true →
  ∃ e ∈ es, Region.binds md e = true ∧ ∃ (j : Nat) (oj : Oper), l[j]? = some oj ∧ oj.dst = some t ∧ j ≤ e.on ∧ (j = e.on ∨ Anc md l.toArray e.on j)
 | [], _, t, h => by simp [upBits] at h
 | e :: r, he, t, h => by
  rw [upBits, Nat.testBit_or, Bool.or_eq_true] at h
  rcases h with h | h
  ·by_cases hb : Region.binds md e = true
   ·rw [if_pos hb] at h
    exact ⟨e, by simp, hb, hms e.on (he e (by simp) hb) t h⟩
   ·rw [if_neg hb] at h; simp at h
  ·obtain ⟨e', he', rest⟩ := upBits_spec hms r (fun x hx => he x (by simp [hx])) t h
   exact ⟨e', by simp [he'], rest⟩
theorem quickGo_spec {l : List Oper} : ∀ (r : List Oper) (i : Nat) (ms : List Nat) (seen : Nat), (∀ j, r[j]? = l[i + j]?) → (∀ k, k < i → MaskOk md l k (ms.getD (i - 1 - k) 0)) →
  (∀ (j : Nat) (oj : Oper), j < i → l[j]? = some oj → ∀ d, oj.dst = some d → seen.testBit d = true) → quickGo md l.toArray (allBits l) i r ms seen = true →
  ∀ (k : Nat) (o : Oper), i ≤ k → l[k]? = some o → (∀ cs b, o.op ≠ .select cs b) ∧ (∀ e ∈ o.after, Region.binds md e = true → e.on < k) ∧
   (∀ (j : Nat) (oj : Oper), l[j]? = some oj → ∀ d, oj.dst = some d → d ∈ o.looksAt l.toArray → ∃ (j' : Nat) (oj' : Oper), l[j']? = some oj' ∧ oj'.dst = some d ∧ j' < k ∧ Anc md l.toArray k j') ∧
   (∀ (j : Nat) (oj : Oper), j < k → l[j]? = some oj → ∀ d, o.dst = some d → oj.dst ≠ some d)
 | [], i, ms, seen, hr, _, _, _, k, o, hk, ho => by
  have := hr (k - i)
  rw [show i + (k - i) = k by omega, ho] at this
  simp at this
 | p :: r, i, ms, seen, hr, hms, hseen, h, k, o, hk, ho => by
  have h0 : l[i]? = some p := by simpa using (hr 0).symm
  rw [quickGo] at h
  simp only [Bool.and_eq_true] at h
  obtain ⟨⟨⟨h1, h2⟩, h3⟩, h4, h5⟩ := h
  have hes : ∀ e ∈ p.after.toList, Region.binds md e = true → e.on < i := fun e he hb => by
   have := List.all_eq_true.1 h2 e he
   rw [hb] at this
   simpa using this
  have hup := upBits_spec (md := md) (l := l) hms p.after.toList hes
  rcases Nat.eq_or_lt_of_le hk with rfl | hlt
  ·have : o = p := Option.some.inj (ho.symm.trans h0)
   subst this
   refine ⟨fun cs b e => ?_, fun e he => hes e (by simpa using he), fun j oj hj d hd hin => ?_, fun j oj hjk hj d hd hd' => ?_⟩
   ·rw [e] at h1
    cases h1
   ·have := List.all_eq_true.1 h4 d hin
    rw [(allBits_spec l d).2 ⟨j, oj, hj, hd⟩] at this
    obtain ⟨e, he, hb, j', oj', hj', hd', hle, hor⟩ := hup d (by simpa using this)
    have hlt := hes e he hb
    have hw : Region.waitsFor md l.toArray i e.on = true := by
     unfold Region.waitsFor
     simp only [List.getElem?_toArray, h0]
     exact Array.any_eq_true'.2 ⟨e, by simpa using he, by simp [hb]⟩
    refine ⟨j', oj', hj', hd', by omega, ?_⟩
    rcases hor with rfl | ha
    ·exact .one hw
    ·exact .step hw ha
   ·rw [hd] at h3
    simp only [] at h3
    rw [hseen j oj hjk hj d hd'] at h3
    cases h3
  ·refine quickGo_spec r (i + 1) _ _ (fun j => ?_) (fun k' hk' => ?_) (fun j oj hj hl d hd => ?_) h5 k o hlt ho
   ·have := hr (j + 1)
    rw [show i + (j + 1) = i + 1 + j by omega] at this
    simpa using this
   ·rcases Nat.lt_succ_iff_lt_or_eq.1 hk' with h' | rfl
    ·rw [show i + 1 - 1 - k' = (i - 1 - k') + 1 by omega, List.getD_cons_succ]
     exact hms k' h'
    ·rw [show k' + 1 - 1 - k' = 0 by omega, List.getD_cons_zero]
     intro t ht
     rw [Nat.testBit_or, Bool.or_eq_true] at ht
     rcases ht with ht | ht
     ·obtain ⟨e, he, hb, j', oj', hj', hd', hle, hor⟩ := hup t ht
      have hlt := hes e he hb
      have hw : Region.waitsFor md l.toArray k' e.on = true := by
       unfold Region.waitsFor
       simp only [List.getElem?_toArray, h0]
       exact Array.any_eq_true'.2 ⟨e, by simpa using he, by simp [hb]⟩
      refine ⟨j', oj', hj', hd', by omega, .inr ?_⟩
      rcases hor with rfl | ha
      ·exact .one hw
      ·exact .step hw ha
     ·exact ⟨k', p, h0, dstBit_spec.1 ht, Nat.le_refl _, .inl rfl⟩
   ·rw [Nat.testBit_or, Bool.or_eq_true]
    rcases Nat.lt_succ_iff_lt_or_eq.1 hj with h' | rfl
    ·exact .inl (hseen j oj h' hl d hd)
    ·have : oj = p := Option.some.inj (hl.symm.trans h0)
     subst this
     exact .inr (dstBit_spec.2 hd)
theorem quickOk {l : List Oper} (h : quickB md l = true) : QuickOk md l := by
 have S := quickGo_spec (md := md) (l := l) l 0 [] 0 (fun j => by simp) (fun k hk => by omega) (fun j _ hj => by omega) h
 have D : ∀ (i j : Nat) (oi oj : Oper), l[i]? = some oi → l[j]? = some oj → j ≠ i → ∀ d, oi.dst = some d → oj.dst ≠ some d := fun i j oi oj hi hj hne d hd hd' => by
  rcases Nat.lt_or_gt_of_ne hne with hlt | hlt
  ·exact (S i oi (Nat.zero_le _) hi).2.2.2 j oj hlt hj d hd hd'
  ·exact (S j oj (Nat.zero_le _) hj).2.2.2 i oi hlt hi d hd' hd
 refine ⟨fun j o cs b hj => (S j o (Nat.zero_le _) hj).1 cs b, fun j oj hj => (S j oj (Nat.zero_le _) hj).2.1, fun i j oi oj hi hj d hd hin => ?_, D⟩
 obtain ⟨j', oj', hj', hd', hlt, ha⟩ := (S i oi (Nat.zero_le _) hi).2.2.1 j oj hj d hd hin
 by_cases e : j = j'
 ·subst e; exact ⟨hlt, ha⟩
 ·exact absurd hd (D j' j oj' oj hj' hj e d hd')
variable {C : World → Prop} {F : Fence} {m : Nat}
theorem vals_of_walk {l : List Oper} {a0 : Act} {R : Act → Prop} (hd : ∀ (i j : Nat) (oi oj : Oper), l[i]? = some oi → l[j]? = some oj → j ≠ i → ∀ d, oi.dst = some d → oj.dst ≠ some d) :
  ∀ (t : List Oper) (k : Nat) (vs : Nat → Value), (∀ j, t[j]? = l[k + j]?) → k + t.length = l.length → wpQuiet P l.toArray C R t (putsG (fun j => decide (j < k)) vs 0 l a0) →
  ∃ vs' : Nat → Value, (∀ j, j < k → vs' j = vs j) ∧ (∀ (i : Nat) (o : Oper), k ≤ i → l[i]? = some o → YieldsIn P l.toArray C o (vs' i) (putsG (fun j => decide (j < i)) vs' 0 l a0)) ∧ R (putsG (fun j => decide (j < l.length)) vs' 0 l a0)
 | [], k, vs, hl, hk, h => by
  simp only [List.length_nil, Nat.add_zero] at hk
  subst hk
  refine ⟨vs, fun _ _ => rfl, fun i o hi ho => ?_, h⟩
  rw [List.getElem?_eq_none hi] at ho
  cases ho
 | o :: t, k, vs, hl, hk, h => by
  have h0 : l[k]? = some o := by simpa using (hl 0).symm
  have hq : qOp P l.toArray C k (wpQuiet P l.toArray C R t) (putsG (fun j => decide (j < k)) vs 0 l a0) := by
   unfold qOp
   simp only [List.getElem?_toArray, h0]
   exact h
  obtain ⟨v, hy, hK⟩ := yieldsIn_of_qOp (by simpa using h0) hq
  have hfire := putsG_fire l 0 a0 k o v (fun j => decide (j < k)) vs h0 (by simp) (fun j oj hj hne => hd k j o oj h0 hj hne)
  rw [Nat.zero_add] at hfire
  have hput : putsG (upd (fun j => decide (j < k)) k true) (upd vs k v) 0 l a0 = putsG (fun j => decide (j < k + 1)) (upd vs k v) 0 l a0 := by
   refine putsG_congr l 0 a0 _ _ _ _ (fun j _ _ => ⟨?_, fun _ => rfl⟩)
   by_cases hj : j = k
   ·subst hj; rw [upd_self]; simp
   ·rw [upd_ne _ _ hj]; exact decide_eq_decide.2 (by omega)
  rw [← hfire, hput] at hK
  obtain ⟨vs', h1, h2, h3⟩ := vals_of_walk hd t (k + 1) (upd vs k v) (fun j => by have := hl (j + 1); simpa [Nat.add_assoc, Nat.add_comm 1 j] using this) (by simp only [List.length_cons] at hk; omega) hK
  refine ⟨vs', fun j hj => by rw [h1 j (by omega), upd_ne _ _ (by omega)], fun i oi hi ho => ?_, h3⟩
  rcases Nat.eq_or_lt_of_le hi with rfl | hlt
  ·have : oi = o := Option.some.inj (ho.symm.trans h0)
   subst this
   rw [h1 k (by omega), upd_self]
   rw [putsG_congr l 0 a0 (fun j => decide (j < k)) (fun j => decide (j < k)) vs' vs (fun j _ _ => ⟨rfl, fun hj => by
    have hj' : j < k := by simpa using hj
    rw [h1 j (by omega), upd_ne _ _ (by omega)]⟩)]
   exact hy
  ·exact h2 i oi hlt ho
theorem quick_main (hF : Free F) {l : List Oper} {a0 : Act} {vs : Nat → Value} {Q : Exit → Act → World → Prop} (ok : QuickOk md l) (hnd : ∀ o ∈ l, ∀ q, o.op ≠ .defer q)
  (hy : ∀ (i : Nat) (o : Oper), l[i]? = some o → YieldsIn P l.toArray C o (vs i) (putsG (fun j => decide (j < i)) vs 0 l a0)) (hQ : ∀ w, C w → Q .normal (putsG (fun j => decide (j < l.length)) vs 0 l a0) w) :
  ∀ (fuel : Nat) (V : List Nat) (listed : Array Bool) (w : World), V.Nodup → (∀ i, i ∈ V ↔ listed.getD i true = false) → V.length = fuel → Closed md l.toArray listed → C w →
   wpAnyIn F m P md l.toArray Q fuel listed (putsG (fun j => listed.getD j false) vs 0 l a0) w := by
 intro fuel
 induction fuel with
 | zero =>
  intro V listed w hV hVm hVl hc hC
  have hnil : V = [] := List.eq_nil_of_length_eq_zero hVl
  subst hnil
  have hall : ∀ i, listed.getD i true = true := fun i => by
   cases hi : listed.getD i true with
   | true => rfl
   | false => have := (hVm i).2 hi; cases this
  refine ⟨?_, ?_⟩
  ·apply List.eq_nil_iff_forall_not_mem.2
   intro j hj
   have := (mem_ready.1 hj).1
   rw [hall] at this; cases this
  ·rw [putsG_congr l 0 a0 (fun j => listed.getD j false) (fun j => decide (j < l.length)) vs vs (fun j _ hj => ⟨?_, fun _ => rfl⟩)]
   ·exact hQ w hC
   ·cases hi : listed.getD j false with
    | true => simp; omega
    | false => have := getD_in (by rw [hc.1]; simpa using (show j < l.length by omega)) hi; rw [hall] at this; cases this
 | succ fuel ih =>
  intro V listed w hV hVm hVl hc hC
  refine ⟨fun h0 => ?_, fun i hir => ?_⟩
  ·obtain ⟨j, hj⟩ : ∃ j, j ∈ V := by
    cases V with
    | nil => cases hVl
    | cons x r => exact ⟨x, by simp⟩
   obtain ⟨k, hk⟩ := exists_ready' ok.edges hc j ((hVm j).1 hj)
   rw [h0] at hk; cases hk
  ·obtain ⟨hun, oi, hoi, hall⟩ := mem_ready.1 hir
   have hoi' : l[i]? = some oi := by simpa using hoi
   have hilt : i < l.length := (List.getElem?_eq_some_iff.1 hoi').1
   have hiV : i ∈ V := (hVm i).2 hun
   have hV' : (V.erase i).Nodup := hV.erase i
   have hVm' : ∀ j, j ∈ V.erase i ↔ (listed.setIfInBounds i true).getD j true = false := fun j => by
    by_cases hji : j = i
    ·subst hji
     rw [getD_set_true']
     simp [hV.not_mem_erase]
    ·rw [List.mem_erase_of_ne hji, hVm j, getD_set_ne true (Ne.symm hji)]
   have hVl' : (V.erase i).length = fuel := by rw [List.length_erase_of_mem hiV, hVl]; rfl
   have hc' := hc.set hir
   have hom : oi ∈ l := List.mem_of_getElem? hoi'
   have hfi : listed.getD i false = false := getD_both hun
   have hflag : (fun j => (listed.setIfInBounds i true).getD j false) = upd (fun j => listed.getD j false) i true := by
    funext j
    by_cases hji : j = i
    ·subst hji
     rw [upd_self]
     have : j < listed.size := by rw [hc.1]; simpa using hilt
     simp [this]
    ·rw [upd_ne _ _ hji, getD_set_ne false (Ne.symm hji)]
   have htm : ∀ t ∈ oi.looksAt l.toArray, (putsG (fun j => listed.getD j false) vs 0 l a0).tmps[t]? = (putsG (fun j => decide (j < i)) vs 0 l a0).tmps[t]? := fun t ht => by
    refine putsG_agree l 0 a0 a0 _ _ _ _ t rfl rfl (fun j oj hj hd => ?_)
    obtain ⟨hlt, ha⟩ := ok.looks i j oi oj hoi' hj t hd ht
    rw [Nat.zero_add]
    exact ⟨by show listed.getD j false = decide (j < i); rw [anc_ready hc ha hir, decide_eq_true hlt], fun _ => rfl⟩
   have hya := (hy i oi hoi').of_same (exec_same oi (fun cs b => ok.sel i oi cs b hoi') _ _ htm) (wanted_same oi _ _ htm)
   have hfire := putsG_fire l 0 a0 i oi (vs i) (fun j => listed.getD j false) vs hoi' (by rw [Nat.zero_add]; exact hfi) (fun j oj hj hne => ok.dsts i j oi oj hoi' hj hne)
   rw [Nat.zero_add] at hfire
   have hself : upd vs i (vs i) = vs := by
    funext j
    by_cases hji : j = i
    ·subst hji; rw [upd_self]
    ·rw [upd_ne _ _ hji]
   rw [hself, ← hflag] at hfire
   refine wpOpIn_of_qOpF (C := C) hF (by simpa using hnd) hC (K := fun a' => a' = putsG (fun j => (listed.setIfInBounds i true).getD j false) vs 0 l a0) (fun a' w' hw' e => by subst e; exact ih _ _ w' hV' hVm' hVl' hc' hw') ?_
   exact hya.qOp hoi hfire.symm
theorem wpIn_region_quick (hF : Free F) {id : Nat} {Q : Exit → Act → World → Prop} {a : Act} {w : World} {l : List Oper} (hm : P.follows .mixedOrders = true) (hnd : noDefer l = true) (hB : quickB .any l = true)
  (hC : C { w with drawn := w.drawn + 1 }) (h : wpQuiet P l.toArray C (fun a' => ∀ w', C w' → Q .normal a' w') l a) : (Code.region id l.toArray true).wpIn F m P Q a w := by
 have ok := quickOk hB
 have h00 : ∀ (vs : Nat → Value) (t : List Oper) k, putsG (fun _ => false) vs k t a = a := by
  intro vs t
  induction t with
  | nil => intro k; rfl
  | cons o t ih => intro k; simp only [putsG, Bool.false_eq_true, if_false]; exact ih _
 have e0 : ∀ vs : Nat → Value, putsG (fun j => decide (j < 0)) vs 0 l a = a := fun vs => by
  rw [putsG_congr l 0 a (fun j => decide (j < 0)) (fun _ => false) vs vs (fun j _ _ => ⟨by simp, fun _ => rfl⟩)]
  exact h00 vs l 0
 obtain ⟨vs, _, hy, hQ⟩ := vals_of_walk (C := C) (a0 := a) ok.dsts l 0 (fun _ => undef) (fun j => by simp) (by simp) (by rw [e0]; exact h)
 refine wpIn_region_any hm ?_
 have hf0 : (fun j => (Array.replicate l.toArray.size false).getD j false) = fun _ => false := by funext j; exact getD_replicate_false _ _
 have := quick_main (m := m) (C := C) (Q := Q) hF ok (noDefer_spec hnd) (fun i o ho => hy i o (Nat.zero_le _) ho) hQ l.toArray.size (List.range l.toArray.size) (Array.replicate l.toArray.size false) { w with drawn := w.drawn + 1 } List.nodup_range (fun i => ?_) (by simp) ⟨by simp, fun j oj _ hl => ?_⟩ hC
 ·rw [hf0, h00] at this
  exact this
 ·rw [List.mem_range]
  rcases Nat.lt_or_ge i l.toArray.size with h | h
  ·exact ⟨fun _ => getD_in (by simpa using h) (getD_replicate_false _ _), fun _ => h⟩
  ·refine ⟨fun h' => absurd h' (by omega), fun h' => ?_⟩
   simp only [List.size_toArray] at h
   simp [Array.getD, show ¬ i < l.length by omega] at h'
 ·rw [getD_replicate_false] at hl; cases hl
theorem wp_region_quick {id : Nat} {Q : Exit → Act → World → Prop} {a : Act} {w : World} {l : List Oper} (hm : P.follows .mixedOrders = true) (hnd : noDefer l = true) (hB : quickB .any l = true)
  (hC : C { w with drawn := w.drawn + 1 }) (h : wpQuiet P l.toArray C (fun a' => ∀ w', C w' → Q .normal a' w') l a) : (Code.region id l.toArray true).wp P Q a w :=
 wpIn_wide.1 (wpIn_region_quick (m := 0) free_wide hm hnd hB hC h)
end
abbrev W4 (a b c d : Int) : Value := .agg #[.int .u64 a, .int .u64 b, .int .u64 c, .int .u64 d]
theorem eq4 (a b c d a' b' c' d' : Int) (w : World) : (Op.equalIn 10000 24 (.agg #[.int .u64 a, .int .u64 b, .int .u64 c, .int .u64 d]) (.agg #[.int .u64 a', .int .u64 b', .int .u64 c', .int .u64 d'])).run Try.prog w = .ok (a == a' && b == b' && c == c' && d == d') w := by
 have u3 := Try.underlying22
 have a3 := Try.isAgg22
 have z3 := Try.sizeOf22
 rw [show (10000 : Nat) = 9999 + 1 from rfl, Op.equalIn]
 simp only [Sem.run_bind, run_underlying Try.underlying24, Result.andThen_ok]
 simp only [Std.Legacy.Range.forIn_eq_forIn_range', Std.Legacy.Range.size, Nat.sub_zero, Nat.add_sub_cancel, Nat.div_one, List.range'_succ, List.range'_zero, List.forIn_cons, List.forIn_nil]
 go_simp
 by_cases h1 : a = a' <;> by_cases h2 : b = b' <;> by_cases h3 : c = c' <;> by_cases h4 : d = d' <;> simp [h1, h2, h3, h4]
def Has (W : World) (B : Nat) (t : TypeId) (cs : Array Value) : Prop := W.heap[B]? = some (.cells cs t (0, 0))
theorem Has.lt {W : World} {B : Nat} {t : TypeId} {cs : Array Value} (h : Has W B t cs) : B < W.heap.size := (Array.getElem?_eq_some_iff.1 h).1
theorem Has.cell {W : World} {B : Nat} {t : TypeId} {cs : Array Value} (h : Has W B t cs) (j : Nat) (v : Value) (hj : cs[j]? = some v) : W.cell? ⟨B, j, none⟩ = some v := by
 unfold Has at h
 simp [World.cell?, h, hj]
theorem Has.frozen {W : World} {B : Nat} {t : TypeId} {cs : Array Value} (h : Has W B t cs) (j : Nat) : W.frozen? ⟨B, j, none⟩ = false := by
 unfold Has at h
 simp [World.frozen?, h]
theorem Has.new (W : World) (t : TypeId) (cs : Array Value) : Has (W.alloc (.cells cs t)) W.heap.size t cs := World.alloc_heap_new W _
theorem Has.below {W W' : World} {B n : Nat} {t : TypeId} {cs : Array Value} (h : Has W B t cs) (hb : Below n W W') (hn : B < n) : Has W' B t cs := (hb.block B hn).trans h
theorem Has.later {W W' : World} {B : Nat} {t : TypeId} {cs : Array Value} (h : Has W B t cs) (hb : Below W.heap.size W W') : Has W' B t cs := h.below hb h.lt
theorem Has.alloc {W : World} {B : Nat} {t : TypeId} {cs : Array Value} (h : Has W B t cs) (o : Obj) : Has (W.alloc o) B t cs := h.later ((Below.refl _ W).alloc (Nat.le_refl _) o)
theorem Has.set {W : World} {B : Nat} {t : TypeId} {cs : Array Value} (h : Has W B t cs) (k : Nat) (v : Value) : Has (W.setCell ⟨B, k, none⟩ v) B t (cs.setIfInBounds k v) := by
 obtain ⟨hlt, he⟩ := Array.getElem?_eq_some_iff.1 h
 show (W.heap.modify B _)[B]? = _
 rw [Array.getElem?_eq_getElem (by rw [Array.size_modify]; exact hlt), Array.getElem_modify_self, he]
 rfl
theorem Ret.of_eq {P : Program} {f : FuncId} {args args' : Array Value} {v v' : Value} (h : Ret P f args v) (ha : args = args') (hv : v = v') : Ret P f args' v' := by subst ha; subst hv; exact h
theorem newA (w : World) (o : Obj) : Below w.heap.size w (w.alloc o) := (Below.refl w.heap.size w).alloc (Nat.le_refl _) o
theorem sT {α : Type} (l : List α) (i : Nat) (a : α) : l.toArray.setIfInBounds i a = (l.set i a).toArray := List.setIfInBounds_toArray l i a
theorem sS {α : Type} {x : α} {xs : List α} {i : Nat} {a : α} : (x :: xs).set (i + 1) a = x :: xs.set i a := List.set_cons_succ
theorem sZ {α : Type} {x : α} {xs : List α} {a : α} : (x :: xs).set 0 a = a :: xs := List.set_cons_zero
theorem hid {p : Prop} (h : p) : RowKit.Hid p := Lib.hid h
theorem newBox (w : World) (t : TypeId) (cs : Array Value) : ∃ V, w.alloc (.cells cs t) = V ∧ Has V w.heap.size t cs ∧ Below w.heap.size w V := ⟨_, rfl, Has.new w t cs, (Below.refl w.heap.size w).alloc (Nat.le_refl _) (.cells cs t)⟩
end
section
open Go Go.RowKit
attribute [local go_sem] Oper.semAt_some Grows wide_fn
def pickN (c m : Int) : Int := (if c < 0 then -(c + 1) else c) % m
theorem pickN_range (c m : Int) (hm : 0 < m) : 0 ≤ pickN c m ∧ pickN c m < m := by
 unfold pickN
 exact ⟨Int.emod_nonneg _ (by omega), Int.emod_lt_of_pos _ hm⟩
theorem ofN_nat (n : Nat) : ofN (n : Int) = n := by unfold ofN; rw [if_neg (by omega)]; omega
theorem pick_ret (c : Int) (hc : I64 c) (m : Int) (hm : 0 < m) (hm2 : m ≤ 4611686018427387903) : Ret Try.prog 11 #[.int .i64 c, .int .i64 m] (.int .i64 (pickN c m)) := by
 refine Ret.of_same fun w => ?_
 unfold I64 at hc
 unfold pickN
 by_cases h : c < 0
 ·rw [if_pos h]
  have h0 : (0 : Int) ≤ -(c + 1) := by omega
  have h1 : -(c + 1) < 9223372036854775808 := by omega
  have q0 := Int.emod_nonneg (-(c + 1)) (show m ≠ 0 by omega)
  have q1 := Int.emod_lt_of_pos (-(c + 1)) hm
  have e := Int.tmod_eq_emod_of_nonneg h0 (b := m)
  go_enter Try.func11, Try.ntmps11
  go_wp2
  go_ret
  exact ⟨rfl, rfl⟩
 ·rw [if_neg h]
  have q0 := Int.emod_nonneg c (show m ≠ 0 by omega)
  have q1 := Int.emod_lt_of_pos c hm
  have e := Int.tmod_eq_emod_of_nonneg (show 0 ≤ c by omega) (b := m)
  go_enter Try.func11, Try.ntmps11
  go_wp2
  go_ret
  exact ⟨rfl, rfl⟩
end
end Go.Proofs.Ytpolmfmlklmmcaa
