/- Part. -/
import Derived.Test.YthcmfadofogfaaaDoorG02
import Derived.Laws.MakeOwn
import Derived.Laws.AppendOwn
import Derived.OwnWalk
import Derived.WalkSmall
import Derived.Test.YthcmfadofogfaaaDoorG01
import Derived.Maps.AppendAt
import Derived.Deep.OwnRows
set_option maxRecDepth 100000
set_option maxHeartbeats 16000000
namespace Go.Proofs.YthcmfadofogfaaaDoor
section
open Go Go.RowKit Go.Shelf
attribute [local go_sem] Oper.semAt_some Grows wide_fn
def NumSt (w : World) (K : Kind) (s : ByteArray) (k : Nat) (W : World) : Prop :=
 ∃ m, numFrom K 0 (s.data.toList.take (7 * k)) = some m ∧ W256 m ∧ (Arr4 W w.heap.size 37 (fun _ => 0) ∧ Boxed W (w.heap.size + 1) 4 (.bool false) ∧ Arr4 W (w.heap.size + 1 + 1) 37 (lim m) ∧ Boxed W (w.heap.size + 1 + 1 + 1) 9 (.string s)) ∧ Below w.heap.size w W
theorem NumSt.own (w : World) (K : Kind) (s : ByteArray) (B : Nat) (hB : w.heap.size ≤ B) : OwnFrom B (fun k W => NumSt w K s k W) := by
 rintro k X Y row ⟨m, h1, h2, ⟨b0, b1, b2, b3⟩, h4⟩ hg hr
 have hr' : ∀ r, row = some r → ∃ o : Obj, X.heap[r]? = some o ∧ o.isCells = false := fun r e => (hr r e).2
 exact ⟨m, h1, h2, ⟨Arr4.own _ _ (fun _ : Unit => fun _ => 0) () X Y row b0 hg hr', boxed_own _ _ (fun _ : Unit => _) () X Y row b1 hg hr', Arr4.own _ _ (fun _ : Unit => _) () X Y row b2 hg hr', boxed_own _ _ (fun _ : Unit => _) () X Y row b3 hg hr'⟩,
  ownFrom_below (β := Unit) (Nat.le_refl _) hB () X Y row h4 hg hr⟩
def NumBad (w : World) (W : World) : Prop := Arr4 W w.heap.size 37 (fun _ => 0) ∧ Boxed W (w.heap.size + 1) 4 (.bool false) ∧ Below w.heap.size w W
theorem NumBad.own (w : World) (B : Nat) (hB : w.heap.size ≤ B) : OwnFrom B (fun (_ : Nat) W => NumBad w W) := by
 rintro k X Y row ⟨b0, b1, h4⟩ hg hr
 have hr' : ∀ r, row = some r → ∃ o : Obj, X.heap[r]? = some o ∧ o.isCells = false := fun r e => (hr r e).2
 exact ⟨Arr4.own _ _ (fun _ : Unit => fun _ => 0) () X Y row b0 hg hr', boxed_own _ _ (fun _ : Unit => _) () X Y row b1 hg hr', ownFrom_below (β := Unit) (Nat.le_refl _) hB () X Y row h4 hg hr⟩
theorem Arr4.store0 {W : World} {B : Nat} {t : TypeId} (h : Arr4 W B t (fun _ => 0)) :
  Arr4 ((((W.setCell ⟨B, 0, none⟩ (.int .u64 0)).setCell ⟨B, 1, none⟩ (.int .u64 0)).setCell ⟨B, 2, none⟩ (.int .u64 0)).setCell ⟨B, 3, none⟩ (.int .u64 0)) B t (fun _ => 0) := h.store (fun _ => 0)
theorem Boxed.refix {W : World} {B : Nat} {t : TypeId} {v : Value} (h : Boxed W B t v) : Boxed (W.setCell ⟨B, 0, none⟩ v) B t v := h.set v
theorem number_oct (s : ByteArray) (hs : s.size ≤ 140737488355328) : Ret Tryd.prog 62 #[.string s] (numV octK s.data.toList) := by
 intro w
 have h1 : 1 ≤ 4 := by omega
 refine (callsIn_wide (n := 4)).1 ?_
 refine callsIn_of_wp_marks Tryd.func62 rfl trivial ?_ rfl
 simp only [Tryd.ntmps62, List.size_toArray, List.length_cons, List.length_nil, Nat.reduceAdd, Nat.reduceSub, Array.replicate_succ, Array.replicate_zero, List.push_toArray, List.append_toArray, List.nil_append, List.cons_append]
 gi_wp2_with (gi_at_call 71; refine (callsIn_free free_wide (pieces_any _ _)).mono ?_; rintro e w' ⟨rfl, rfl⟩)
 obtain ⟨W0, hW0⟩ : ∃ W0, ((((w.alloc (.cells #[.int .u64 0, .int .u64 0, .int .u64 0, .int .u64 0] 37)).alloc (.cells #[.bool false] 4)).alloc (.cells #[.int .u64 0, .int .u64 0, .int .u64 0, .int .u64 0] 37)).alloc (.cells #[.string s] 9)) = W0 := ⟨_, rfl⟩
 have hsz : W0.heap.size = w.heap.size + 4 := by rw [← hW0]; simp
 have hJ0 : NumSt w octK s 0 W0 := by
  rw [← hW0]
  refine ⟨0, rfl, by unfold W256; decide, ⟨?_, ?_, ?_, ?_⟩, ((((Below.refl _ w).alloc (Nat.le_refl _) _).alloc (by simp) _).alloc (by simp; omega) _).alloc (by simp; omega) _⟩
  ·have h := World.alloc_heap_new w (.cells #[.int .u64 0, .int .u64 0, .int .u64 0, .int .u64 0] 37)
   exact (((Arr4.alloc (m := fun _ => 0) h _).alloc _).alloc _)
  ·have h := Boxed.new (w.alloc (.cells #[.int .u64 0, .int .u64 0, .int .u64 0, .int .u64 0] 37)) 4 (.bool false)
   rw [World.size_alloc] at h
   exact (h.alloc _).alloc _
  ·have h := World.alloc_heap_new ((w.alloc (.cells #[.int .u64 0, .int .u64 0, .int .u64 0, .int .u64 0] 37)).alloc (.cells #[.bool false] 4)) (.cells #[.int .u64 0, .int .u64 0, .int .u64 0, .int .u64 0] 37)
   rw [World.size_alloc, World.size_alloc] at h
   exact Arr4.alloc (m := lim 0) h _
  ·have h := Boxed.new (((w.alloc (.cells #[.int .u64 0, .int .u64 0, .int .u64 0, .int .u64 0] 37)).alloc (.cells #[.bool false] 4)).alloc (.cells #[.int .u64 0, .int .u64 0, .int .u64 0, .int .u64 0] 37)) 9 (.string s)
   simpa using h
 rw [hW0]
 clear hW0
 have hcP := hJ0
 obtain ⟨_, _, _, ⟨_, _, _, bP⟩, _⟩ := hcP
 refine wpIn_rangeFunc_N1 rfl h1 (gf := 79) (lb := #[.pointer (some ⟨w.heap.size + 1 + 1 + 1, 0, none⟩)]) rfl trivial (enters_of Tryd.func79 (by kernel_rfl) rfl)
  (pieces_seq _ (by omega) _ s hs W0 (by omega) bP.cell) KeepsAt.trans (KeepsAt.refl _) (KeepsAt.b (by simp; omega)) (fun _ _ => rfl)
  (fun k W => NumSt w octK s k W)
  (fun c k W => c = .ret ∧ Hid (numV octK s.data.toList = .tuple #[.agg #[.int .u64 0, .int .u64 0, .int .u64 0, .int .u64 0], .bool false]) ∧ NumBad w W)
  (NumSt.own w octK s _ (by omega))
  (fun c => OwnFrom.and (ownFrom_pure _ _) (OwnFrom.and (ownFrom_pure _ _) (NumBad.own w _ (by omega))))
  hJ0
  (fun k => { tmps := #[.string s, undef, .pointer (some ⟨w.heap.size, 0, none⟩), .pointer (some ⟨w.heap.size + 1, 0, none⟩), .pointer (some ⟨w.heap.size + 1 + 1, 0, none⟩), .string (piece s k), undef, undef, undef, undef, .agg #[.int .u64 0, .int .u64 0, .int .u64 0, .int .u64 0], .string s, .func (.func 79) #[] #[.pointer (some ⟨w.heap.size + 1 + 1 + 1, 0, none⟩)], .string (piece s k), undef, undef, undef, undef, undef, undef, undef, undef, undef, undef, undef, undef, undef, undef, undef, undef, undef, undef, undef], defers := [] }) ?assign ?body ?done ?stop
 case assign =>
  intro l k W K _ hK
  gi_wp2
  exact hK
 case body =>
  rintro l k W _ hkN ⟨m, hm, hm256, ⟨b0, b1, b2, b3⟩, hB⟩
  have hsm := small_oct (piece s k) (piece_size s k)
  have c0 := b0.cell (j := 0) (by omega)
  have c1 := b0.cell (j := 1) (by omega)
  have c2 := b0.cell (j := 2) (by omega)
  have c3 := b0.cell (j := 3) (by omega)
  have f0 := b0.frozen 0
  have f1 := b0.frozen 1
  have f2 := b0.frozen 2
  have f3 := b0.frozen 3
  have d1 := b1.cell
  have g1 := b1.frozen
  have hl1 := b1.lt
  have hl2 := b2.lt
  have hl3 := b3.lt
  cases hd : numFrom octK 0 (piece s k).data.toList with
  | none =>
   have hv : smallV octK (piece s k).data.toList = .tuple #[.int .u64 0, .int .u64 0, .bool false] := by unfold smallV; rw [hd]
   rw [hv] at hsm
   have HS := Lib.hid hsm
   have HBAD : Hid (numV octK s.data.toList = .tuple #[.agg #[.int .u64 0, .int .u64 0, .int .u64 0, .int .u64 0], .bool false]) := numV_bad _ _ _ (numFrom_piece_none octK s k m hm hd)
   have HW := Lib.hid (show NumBad w W from ⟨b0, b1, hB⟩)
   clear hv hd hsm hm hm256 b0 b1 b2 b3 hB hJ0 bP
   gi_wp2_with (gi_at_call 72; refine (callsIn_free (free_round l) (HS.out _)).mono ?_; rintro e w' ⟨rfl, rfl⟩)
   obtain ⟨b0, b1, hB⟩ := HW.out
   exact ⟨((((((KeepsOthers.setCell _ _ _).trans (KeepsOthers.setCell _ _ _)).trans (KeepsOthers.setCell _ _ _)).trans (KeepsOthers.setCell _ _ _)).trans (KeepsOthers.setCell _ _ _))).from _, rfl, HBAD,
    Arr4.other b0.store0 (by simp) _, Boxed.refix (Boxed.away (Boxed.away (Boxed.away (Boxed.away b1 (by simp) _) (by simp) _) (by simp) _) (by simp) _), ((((hB.setCell (p := ⟨w.heap.size, 0, none⟩) (by simp) _).setCell (p := ⟨w.heap.size, 1, none⟩) (by simp) _).setCell (p := ⟨w.heap.size, 2, none⟩) (by simp) _).setCell (p := ⟨w.heap.size, 3, none⟩) (by simp) _).setCell (p := ⟨w.heap.size + 1, 0, none⟩) (by simp) _⟩
  | some n =>
   have hv : smallV octK (piece s k).data.toList = .tuple #[.int .u64 (n : Int), .int .u64 ((octK.base ^ (piece s k).data.toList.length : Nat) : Int), .bool true] := by unfold smallV; rw [hd]
   rw [hv] at hsm
   have hn := small_lt octK s k n hd
   have hu := unit_lt octK s k
   have hnext := numFrom_piece octK s k m n hm hd
   generalize octK.base ^ (piece s k).data.toList.length = U at *
   obtain ⟨hp1, hp2⟩ := scale_parts m U n hm256 hu hn
   have hsc := fun W' h1 h2 => scale_any (lim m) (U : Int) (n : Int) (lim_u64 m) ⟨by omega, by omega⟩ ⟨by omega, by omega⟩ (w.heap.size + 1 + 1) W' h1 h2
   rw [hp1 0 (by omega), hp1 1 (by omega), hp1 2 (by omega), hp1 3 (by omega), hp2] at hsc
   have HS := Lib.hid hsm
   have HSC := Lib.hid (hsc W b2.lt (fun j hj => b2.cell hj))
   have HW := Lib.hid (show Arr4 W w.heap.size 37 (fun _ => 0) ∧ Boxed W (w.heap.size + 1) 4 (.bool false) ∧ Arr4 W (w.heap.size + 1 + 1) 37 (lim m) ∧ Boxed W (w.heap.size + 1 + 1 + 1) 9 (.string s) ∧ Below w.heap.size w W from ⟨b0, b1, b2, b3, hB⟩)
   by_cases hgr : m * U + n < 115792089237316195423570985008687907853269984665640564039457584007913129639936
   ·have h0 : (((m * U + n) / 115792089237316195423570985008687907853269984665640564039457584007913129639936 : Nat) : Int) = 0 := by rw [Nat.div_eq_of_lt hgr]; rfl
    rw [h0] at HSC
    rw [wmod_of hgr] at HSC
    have HN := Lib.hid hnext
    have HG : Hid (W256 (m * U + n)) := hgr
    clear hv hd hsm hm hm256 b0 b1 b2 b3 hB hJ0 bP hsc hp1 hp2 hnext hgr h0 hn hu
    generalize m * U + n = m' at *
    gi_wp2_with fail
    refine (callsIn_free (free_round l) (HS.out _)).mono ?_
    rintro e w' ⟨rfl, rfl⟩
    clear HS
    gi_wp2_with fail
    refine (callsIn_free (free_round l) HSC.out).mono ?_
    rintro e w1 ⟨rfl, hb1⟩
    obtain ⟨b0, b1, b2, b3, hB⟩ := HW.out
    have a0 := Arr4.below b0 hb1 b0.lt
    have a1 := Boxed.below b1 hb1 b1.lt
    have a2 := Arr4.below b2 hb1 b2.lt
    have a3 := Boxed.below b3 hb1 b3.lt
    have BB := hB.trans (hb1.mono hB.size)
    have KF : KeepsFrom W0.heap.size W w1 := ⟨hb1.size, fun k o _ h _ => (hb1.block k (Array.getElem?_eq_some_iff.1 h).1).trans h⟩
    have KA : KeepsAt [w.heap.size + 1 + 1 + 1] W w1 := (KeepsAt.refl _ W).below hb1 (fun b hb => by simp at hb; omega)
    have k0 := a2.cell (j := 0) (by omega)
    have k1 := a2.cell (j := 1) (by omega)
    have k2 := a2.cell (j := 2) (by omega)
    have k3 := a2.cell (j := 3) (by omega)
    have z0 := a2.frozen 0
    have z1 := a2.frozen 1
    have z2 := a2.frozen 2
    have z3 := a2.frozen 3
    have HA := Lib.hid (And.intro a0 (And.intro a1 (And.intro a2 (And.intro a3 BB))))
    have HK := Lib.hid (And.intro KF KA)
    clear a0 a1 a2 a3 BB b0 b1 b2 b3 hB hb1 HW HSC KF KA c0 c1 c2 c3 d1 f0 f1 f2 f3 g1
    gi_wp2
    obtain ⟨a0, a1, a2, a3, BB⟩ := HA.out
    obtain ⟨KF, KA⟩ := HK.out
    refine ⟨KF.trans (((((KeepsOthers.setCell _ _ _).trans (KeepsOthers.setCell _ _ _)).trans (KeepsOthers.setCell _ _ _)).trans (KeepsOthers.setCell _ _ _)).from _), (((KA.setCell (by simp) _).setCell (by simp) _).setCell (by simp) _).setCell (by simp) _, m', HN.out, HG.out, ⟨?_, ?_, ?_, ?_⟩, ?_⟩
    ·exact Arr4.other (Arr4.other (Arr4.other (Arr4.other a0 (by simp; omega) _) (by simp; omega) _) (by simp; omega) _) (by simp; omega) _
    ·exact Boxed.away (Boxed.away (Boxed.away (Boxed.away a1 (by simp) _) (by simp) _) (by simp) _) (by simp) _
    ·exact Arr4.store a2 (lim m')
    ·exact Boxed.away (Boxed.away (Boxed.away (Boxed.away a3 (by simp) _) (by simp) _) (by simp) _) (by simp) _
    ·exact (((BB.setCell (p := ⟨w.heap.size + 1 + 1, 0, none⟩) (by simp; omega) _).setCell (p := ⟨w.heap.size + 1 + 1, 1, none⟩) (by simp; omega) _).setCell (p := ⟨w.heap.size + 1 + 1, 2, none⟩) (by simp; omega) _).setCell (p := ⟨w.heap.size + 1 + 1, 3, none⟩) (by simp; omega) _
   ·have HBAD : Hid (numV octK s.data.toList = .tuple #[.agg #[.int .u64 0, .int .u64 0, .int .u64 0, .int .u64 0], .bool false]) := numV_great _ _ _ _ hnext hgr
    have h0 : (((((m * U + n) / 115792089237316195423570985008687907853269984665640564039457584007913129639936 : Nat) : Int) != 0) = true) := by
     have : 1 ≤ (m * U + n) / 115792089237316195423570985008687907853269984665640564039457584007913129639936 := (Nat.le_div_iff_mul_le (by decide)).2 (by omega)
     simp; omega
    generalize (((m * U + n) / 115792089237316195423570985008687907853269984665640564039457584007913129639936 : Nat) : Int) = q at *
    clear hv hd hsm hm hm256 b0 b1 b2 b3 hB hJ0 bP hsc hp1 hp2 hnext hgr hn hu
    generalize wmod (m * U + n) = m' at *
    gi_wp2_with fail
    refine (callsIn_free (free_round l) (HS.out _)).mono ?_
    rintro e w' ⟨rfl, rfl⟩
    clear HS
    gi_wp2_with fail
    refine (callsIn_free (free_round l) HSC.out).mono ?_
    rintro e w1 ⟨rfl, hb1⟩
    obtain ⟨b0, b1, b2, b3, hB⟩ := HW.out
    have a0 := Arr4.below b0 hb1 b0.lt
    have a1 := Boxed.below b1 hb1 b1.lt
    have a2 := Arr4.below b2 hb1 b2.lt
    have BB := hB.trans (hb1.mono hB.size)
    have KF : KeepsFrom W0.heap.size W w1 := ⟨hb1.size, fun k o _ h _ => (hb1.block k (Array.getElem?_eq_some_iff.1 h).1).trans h⟩
    have k0 := a2.cell (j := 0) (by omega)
    have k1 := a2.cell (j := 1) (by omega)
    have k2 := a2.cell (j := 2) (by omega)
    have k3 := a2.cell (j := 3) (by omega)
    have z0 := a2.frozen 0
    have z1 := a2.frozen 1
    have z2 := a2.frozen 2
    have z3 := a2.frozen 3
    have i0 := a0.cell (j := 0) (by omega)
    have i1 := a0.cell (j := 1) (by omega)
    have i2 := a0.cell (j := 2) (by omega)
    have i3 := a0.cell (j := 3) (by omega)
    have y0 := a0.frozen 0
    have y1 := a0.frozen 1
    have y2 := a0.frozen 2
    have y3 := a0.frozen 3
    have x1 := a1.cell
    have v1 := a1.frozen
    have HA := Lib.hid (And.intro a0 (And.intro a1 BB))
    have HK := Lib.hid KF
    clear a0 a1 a2 BB b0 b1 b2 b3 hB hb1 HW HSC KF c0 c1 c2 c3 d1 f0 f1 f2 f3 g1
    gi_wp2
    obtain ⟨a0, a1, BB⟩ := HA.out
    have KF := HK.out
    refine ⟨KF.trans ((((((((((KeepsOthers.setCell _ _ _).trans (KeepsOthers.setCell _ _ _)).trans (KeepsOthers.setCell _ _ _)).trans (KeepsOthers.setCell _ _ _)).trans (KeepsOthers.setCell _ _ _)).trans (KeepsOthers.setCell _ _ _)).trans (KeepsOthers.setCell _ _ _)).trans (KeepsOthers.setCell _ _ _)).trans (KeepsOthers.setCell _ _ _)).from _), rfl, HBAD, ?_, ?_, ?_⟩
    ·exact Arr4.other (Arr4.store0 (Arr4.other (Arr4.other (Arr4.other (Arr4.other a0 (by simp; omega) _) (by simp; omega) _) (by simp; omega) _) (by simp; omega) _)) (by simp) _
    ·exact Boxed.refix (Boxed.away (Boxed.away (Boxed.away (Boxed.away (Boxed.away (Boxed.away (Boxed.away (Boxed.away a1 (by simp) _) (by simp) _) (by simp) _) (by simp) _) (by simp) _) (by simp) _) (by simp) _) (by simp) _)
    ·exact ((((((((BB.setCell (p := ⟨w.heap.size + 1 + 1, 0, none⟩) (by simp; omega) _).setCell (p := ⟨w.heap.size + 1 + 1, 1, none⟩) (by simp; omega) _).setCell (p := ⟨w.heap.size + 1 + 1, 2, none⟩) (by simp; omega) _).setCell (p := ⟨w.heap.size + 1 + 1, 3, none⟩) (by simp; omega) _).setCell (p := ⟨w.heap.size, 0, none⟩) (by simp) _).setCell (p := ⟨w.heap.size, 1, none⟩) (by simp) _).setCell (p := ⟨w.heap.size, 2, none⟩) (by simp) _).setCell (p := ⟨w.heap.size, 3, none⟩) (by simp) _).setCell (p := ⟨w.heap.size + 1, 0, none⟩) (by simp) _
 case done =>
  rintro D W hD ⟨m, hm, hm256, ⟨b0, b1, b2, b3⟩, hB⟩ hK
  have hfull : s.data.toList.take (7 * ((s.size + 6) / 7)) = s.data.toList := List.take_of_length_le (by simp; omega)
  rw [hfull] at hm
  have HV := Lib.hid (numV_good octK _ m hm hm256)
  have c0 := b2.cell (j := 0) (by omega)
  have c1 := b2.cell (j := 1) (by omega)
  have c2 := b2.cell (j := 2) (by omega)
  have c3 := b2.cell (j := 3) (by omega)
  have i0 := b0.cell (j := 0) (by omega)
  have i1 := b0.cell (j := 1) (by omega)
  have i2 := b0.cell (j := 2) (by omega)
  have i3 := b0.cell (j := 3) (by omega)
  have f0 := b0.frozen 0
  have f1 := b0.frozen 1
  have f2 := b0.frozen 2
  have f3 := b0.frozen 3
  have d1 := b1.cell
  have g1 := b1.frozen
  have HA := Lib.hid (And.intro b0 (And.intro b1 hB))
  have HK := Lib.hid hK
  clear b0 b1 b2 b3 hB hK hfull hm hm256 hJ0 bP
  gi_wp2
  obtain ⟨b0, b1, hB⟩ := HA.out
  have hK' := (((((KeepsOthers.setCell W ⟨w.heap.size, 0, none⟩ (.int .u64 (lim m 0))).trans (KeepsOthers.setCell _ ⟨w.heap.size, 1, none⟩ (.int .u64 (lim m 1)))).trans (KeepsOthers.setCell _ ⟨w.heap.size, 2, none⟩ (.int .u64 (lim m 2)))).trans (KeepsOthers.setCell _ ⟨w.heap.size, 3, none⟩ (.int .u64 (lim m 3)))).trans (KeepsOthers.setCell _ ⟨w.heap.size + 1, 0, none⟩ (.bool true))).same D _ HK.out rfl
  have a0 := Arr4.other (b0.store (lim m)) (p := ⟨w.heap.size + 1, 0, none⟩) (by simp) (.bool true)
  have a1 := Boxed.set (.bool true) (Boxed.away (Boxed.away (Boxed.away (Boxed.away b1 (p := ⟨w.heap.size, 0, none⟩) (by simp) (.int .u64 (lim m 0))) (p := ⟨w.heap.size, 1, none⟩) (by simp) (.int .u64 (lim m 1))) (p := ⟨w.heap.size, 2, none⟩) (by simp) (.int .u64 (lim m 2))) (p := ⟨w.heap.size, 3, none⟩) (by simp) (.int .u64 (lim m 3)))
  have a0' := Arr4.kept a0 (grownBy_putObj' _ D (.deferred none)) (fun e => by cases e; have := (show _ = _ from a0).symm.trans hK'; cases this)
  have a1' := Boxed.kept a1 (grownBy_putObj' _ D (.deferred none)) (fun e => by cases e; have := (show _ = _ from a1).symm.trans hK'; cases this)
  have e0 := a0'.cell (j := 0) (by omega)
  have e1 := a0'.cell (j := 1) (by omega)
  have e2 := a0'.cell (j := 2) (by omega)
  have e3 := a0'.cell (j := 3) (by omega)
  have e4 := a1'.cell
  refine ⟨by simp, .inl ⟨_, _, rfl, run_takeDeferred hK', ?_⟩⟩
  exact ⟨_, (by simp [results, Tryd.f62, go_sem, e0, e1, e2, e3, e4]; rfl), by rw [HV.out],
   ((((((hB.setCell (p := ⟨w.heap.size, 0, none⟩) (by simp) _).setCell (p := ⟨w.heap.size, 1, none⟩) (by simp) _).setCell (p := ⟨w.heap.size, 2, none⟩) (by simp) _).setCell (p := ⟨w.heap.size, 3, none⟩) (by simp) _).setCell (p := ⟨w.heap.size + 1, 0, none⟩) (by simp) _)).trans (belowK_b (w := w) (Nat.le_refl _) _ D _ _ (by omega) hK' rfl rfl)⟩
 case stop =>
  rintro D c k W hD hkN ⟨rfl, hbad, ⟨b0, b1, hB⟩⟩ hK
  have HA := Lib.hid (And.intro b0 (And.intro b1 hB))
  have HK := Lib.hid hK
  clear b0 b1 hB hK hJ0 bP
  gi_wp2
  obtain ⟨a0, a1, hB⟩ := HA.out
  have hK' := HK.out
  have a0' := Arr4.kept a0 (grownBy_putObj' _ D (.deferred none)) (fun e => by cases e; have := (show _ = _ from a0).symm.trans hK'; cases this)
  have a1' := Boxed.kept a1 (grownBy_putObj' _ D (.deferred none)) (fun e => by cases e; have := (show _ = _ from a1).symm.trans hK'; cases this)
  have e0 := a0'.cell (j := 0) (by omega)
  have e1 := a0'.cell (j := 1) (by omega)
  have e2 := a0'.cell (j := 2) (by omega)
  have e3 := a0'.cell (j := 3) (by omega)
  have e4 := a1'.cell
  refine ⟨by simp, .inl ⟨_, _, rfl, run_takeDeferred hK', ?_⟩⟩
  exact ⟨_, (by simp [results, Tryd.f62, go_sem, e0, e1, e2, e3, e4]; rfl), by rw [hbad.out],
   hB.trans (belowK_b (w := w) (Nat.le_refl _) _ D _ _ (by omega) hK' rfl rfl)⟩
def octVal : Nat → List UInt8 → Nat
 | n, [] => n
 | n, c :: r => octVal (n * 256 + c.toNat) r
theorem numFrom_oct : ∀ (l : List UInt8) (n : Nat), numFrom octK n l = some (octVal n l)
 | [], _ => rfl
 | c :: r, n => numFrom_oct r (n * 256 + c.toNat)
theorem octVal_lt (l : List UInt8) : octVal 0 l < 256 ^ l.length := by
 have h := numFrom_lt octK l 0 _ (numFrom_oct l 0)
 rw [octK_base] at h
 omega
def fromB (l : List UInt8) : Nat := octVal 0 (l.drop (l.length - 32))
theorem fromB_lt (l : List UInt8) : W256 (fromB l) := by
 unfold fromB
 have h := octVal_lt (l.drop (l.length - 32))
 have h1 : (l.drop (l.length - 32)).length ≤ 32 := by rw [List.length_drop]; omega
 have h2 : 256 ^ (l.drop (l.length - 32)).length ≤ 256 ^ 32 := Nat.pow_le_pow_right (by decide) h1
 have h3 : (256 : Nat) ^ 32 = 115792089237316195423570985008687907853269984665640564039457584007913129639936 := by decide
 unfold W256
 omega
theorem numV_oct (l : List UInt8) : numV octK (l.drop (l.length - 32)) = .tuple #[wv (fromB l), .bool true] :=
 numV_good octK _ (fromB l) (numFrom_oct _ 0) (fromB_lt l)
theorem fromBytes_ret (s : ByteArray) (hs : s.size ≤ 140737488355328) : Ret Tryd.prog 39 #[.string s] (wv (fromB s.data.toList)) := by
 intro w
 have A0 := World.alloc_heap_new w (.cells #[.int .u64 0, .int .u64 0, .int .u64 0, .int .u64 0] 37)
 have core : ∀ t : ByteArray, t.data.toList = s.data.toList.drop (s.data.toList.length - 32) → Ret Tryd.prog 62 #[.string t] (.tuple #[wv (fromB s.data.toList), .bool true]) := fun t ht => by
  have hsz : t.size ≤ 140737488355328 := by
   have h1 : t.data.toList.length = t.size := by simp
   have h2 : s.data.toList.length = s.size := by simp
   rw [ht, List.length_drop, h2] at h1
   omega
  have h := number_oct t hsz
  rw [ht, numV_oct] at h
  exact h
 have h32 : s.data.toList.length = s.size := by simp
 by_cases hlong : 32 < s.size
 ·have hc := core (s.extract (s.size - 32) s.size) (by rw [extract_list, h32, List.take_of_length_le (by rw [List.length_drop, h32]; omega)])
  have z1 : (0 : Int) < (s.size : Int) - 32 := by omega
  have z2 : (s.size : Int) - 32 ≤ (s.size : Int) := by omega
  have z4 : (s.size : Int) ≤ 1000000000000000 := by omega
  have HC := Lib.hid hc
  generalize fromB s.data.toList = n at *
  unfold wv at HC ⊢
  clear hc core h32 hlong hs
  go_enter Tryd.func39, Tryd.ntmps39
  go_wp2_with fail
  refine (HC.out _).mono ?_
  rintro e w1 ⟨rfl, hb1⟩
  have A4 : Arr4 w1 w.heap.size 37 (fun _ => 0) := Arr4.below (m := fun _ => 0) A0 hb1 (by simp)
  have BB := ((Below.refl _ w).alloc (Nat.le_refl _) (.cells #[.int .u64 0, .int .u64 0, .int .u64 0, .int .u64 0] 37)).trans (hb1.mono (by simp))
  have hz := BB.size
  have hz2 := A4.lt
  have c0 := A4.cell (j := 0) (by omega)
  have c1 := A4.cell (j := 1) (by omega)
  have c2 := A4.cell (j := 2) (by omega)
  have c3 := A4.cell (j := 3) (by omega)
  have f0 := A4.frozen 0
  have f1 := A4.frozen 1
  have f2 := A4.frozen 2
  have f3 := A4.frozen 3
  replace A4 := Lib.hid A4
  clear A0 hb1 HC
  go_wp2
  refine bodyPost_ret (results_word rfl rfl ((A4.out.store _).alloc _)) rfl ⟨rfl, ?_⟩
  (repeat (first | exact BB | refine Below.setCell ?_ (by first | omega | (simp; done) | (simp; omega)) _ | refine Below.alloc ?_ (by first | omega | (simp; done) | (simp; omega)) _ | refine Below.drew ?_))
 ·have hc := core s (by rw [h32, show s.size - 32 = 0 by omega, List.drop_zero])
  have z1 : (s.size : Int) - 32 ≤ 0 := by omega
  have z4 : (s.size : Int) ≤ 1000000000000000 := by omega
  have HC := Lib.hid hc
  generalize fromB s.data.toList = n at *
  unfold wv at HC ⊢
  clear hc core h32 hlong hs
  go_enter Tryd.func39, Tryd.ntmps39
  go_wp2_with fail
  refine (HC.out _).mono ?_
  rintro e w1 ⟨rfl, hb1⟩
  have A4 : Arr4 w1 w.heap.size 37 (fun _ => 0) := Arr4.below (m := fun _ => 0) A0 hb1 (by simp)
  have BB := ((Below.refl _ w).alloc (Nat.le_refl _) (.cells #[.int .u64 0, .int .u64 0, .int .u64 0, .int .u64 0] 37)).trans (hb1.mono (by simp))
  have hz := BB.size
  have hz2 := A4.lt
  have c0 := A4.cell (j := 0) (by omega)
  have c1 := A4.cell (j := 1) (by omega)
  have c2 := A4.cell (j := 2) (by omega)
  have c3 := A4.cell (j := 3) (by omega)
  have f0 := A4.frozen 0
  have f1 := A4.frozen 1
  have f2 := A4.frozen 2
  have f3 := A4.frozen 3
  replace A4 := Lib.hid A4
  clear A0 hb1 HC
  go_wp2
  refine bodyPost_ret (results_word rfl rfl ((A4.out.store _).alloc _)) rfl ⟨rfl, ?_⟩
  (repeat (first | exact BB | refine Below.setCell ?_ (by first | omega | (simp; done) | (simp; omega)) _ | refine Below.alloc ?_ (by first | omega | (simp; done) | (simp; omega)) _ | refine Below.drew ?_))
def badDigits (d : List UInt8) : Prop := d = [] ∨ (d.head? = some 48 ∧ d ≠ [48])
instance (d : List UInt8) : Decidable (badDigits d) := by unfold badDigits; infer_instance


end
section
theorem pow_le256 {m n : Nat} (h : m ≤ n) : (256 : Int) ^ m ≤ 256 ^ n := by
 have h1 : 256 ^ m ≤ 256 ^ n := Nat.pow_le_pow_right (by decide) h
 have h2 := Int.ofNat_le.2 h1
 rw [Int.natCast_pow, Int.natCast_pow] at h2
 exact h2
def valI (d : Nat → Int) : Nat → Int
 | 0 => 0
 | n + 1 => valI d n + d n * 256 ^ n
theorem valI_congr (d e : Nat → Int) : ∀ n, (∀ j, j < n → d j = e j) → valI d n = valI e n
 | 0, _ => rfl
 | n + 1, h => by rw [valI, valI, valI_congr d e n (fun j hj => h j (by omega)), h n (by omega)]
theorem valI_add (d : Nat → Int) (m : Nat) : ∀ n, valI d (m + n) = valI d m + valI (fun j => d (m + j)) n * 256 ^ m
 | 0 => by simp [valI]
 | n + 1 => by
  rw [← Nat.add_assoc, valI, valI, valI_add d m n, Int.pow_add, Int.add_mul, ← Int.add_assoc, Int.mul_assoc (d (m + n)), Int.mul_comm ((256 : Int) ^ m) (256 ^ n)]
theorem valI_zero : ∀ n, valI (fun _ => 0) n = 0
 | 0 => rfl
 | n + 1 => by rw [valI, valI_zero n]; simp
theorem valI_bound (d : Nat → Int) (h : ∀ j, 0 ≤ d j ∧ d j < 256) : ∀ n, 0 ≤ valI d n ∧ valI d n < 256 ^ n
 | 0 => by simp [valI]
 | n + 1 => by
  obtain ⟨h1, h2⟩ := valI_bound d h n
  obtain ⟨h3, h4⟩ := h n
  have hp : (0 : Int) < 256 ^ n := Int.pow_pos (by decide)
  rw [valI, Int.pow_succ]
  generalize (256 : Int) ^ n = M at *
  have e1 : 0 ≤ d n * M := Int.mul_nonneg h3 (Int.le_of_lt hp)
  have e2 : (d n + 1) * M ≤ 256 * M := Int.mul_le_mul_of_nonneg_right (by omega) (Int.le_of_lt hp)
  rw [Int.add_mul] at e2
  constructor <;> omega
def hor (d : Nat → Int) (p : Nat) : Nat → Int
 | 0 => 0
 | m + 1 => hor d p m * 256 + d (8 * p + 7 - m)
theorem hor_bound (d : Nat → Int) (p : Nat) (h : ∀ j, 0 ≤ d j ∧ d j < 256) : ∀ m, 0 ≤ hor d p m ∧ hor d p m < 256 ^ m
 | 0 => by simp [hor]
 | m + 1 => by
  obtain ⟨h1, h2⟩ := hor_bound d p h m
  obtain ⟨h3, h4⟩ := h (8 * p + 7 - m)
  rw [hor, Int.pow_succ]
  constructor <;> omega
theorem hor_none (d : Nat → Int) (p n : Nat) (hz : ∀ j, n ≤ j → d j = 0) : ∀ m, m ≤ 8 → n + m ≤ 8 * p + 8 → hor d p m = 0
 | 0, _, _ => rfl
 | m + 1, h, h2 => by rw [hor, hor_none d p n hz m (by omega) (by omega), hz _ (by omega)]; rfl
theorem hor_eight (d : Nat → Int) (p : Nat) : hor d p 8 = valI (fun j => d (8 * p + j)) 8 := by
 simp only [hor, valI, Nat.sub_zero, Int.pow_zero, Int.reducePow]
 rw [show 8 * p + 7 - 1 = 8 * p + 6 by omega, show 8 * p + 7 - 2 = 8 * p + 5 by omega, show 8 * p + 7 - 3 = 8 * p + 4 by omega, show 8 * p + 7 - 4 = 8 * p + 3 by omega, show 8 * p + 7 - 5 = 8 * p + 2 by omega, show 8 * p + 7 - 6 = 8 * p + 1 by omega, show 8 * p + 7 - 7 = 8 * p by omega]
 simp only [Nat.add_zero]
 omega
def fdAt (d : Nat → Int) (k p : Nat) : Int := hor d p (min 8 (8 * p + 8 - k))
theorem fdAt_step (d : Nat → Int) (i : Nat) (p : Nat) (hp : p = i / 8) : fdAt d i = fun j => if j = p then fdAt d (i + 1) p * 256 + d i else fdAt d (i + 1) j := by
 funext j
 unfold fdAt
 by_cases h : j = p
 ·subst h
  rw [if_pos rfl, show min 8 (8 * j + 8 - i) = (8 * j + 7 - i) + 1 by omega, show min 8 (8 * j + 8 - (i + 1)) = 8 * j + 7 - i by omega, hor, show 8 * j + 7 - (8 * j + 7 - i) = i by omega]
 ·rw [if_neg h]
  congr 1
  omega
theorem fdAt_start (d : Nat → Int) (n : Nat) (hz : ∀ j, n ≤ j → d j = 0) (p : Nat) (hp : p < 4) : fdAt d (min n 32) p = 0 := by
 unfold fdAt
 by_cases h : n ≤ 8 * p + 8
 ·by_cases h2 : min 8 (8 * p + 8 - min n 32) = 8
  ·rw [h2]
   exact hor_none d p n hz 8 (by omega) (by omega)
  ·exact hor_none d p n hz _ (by omega) (by omega)
 ·rw [show min 8 (8 * p + 8 - min n 32) = 0 by omega]; rfl
theorem fdAt_u64 (d : Nat → Int) (h : ∀ j, 0 ≤ d j ∧ d j < 256) (k p : Nat) : U64 (fdAt d k p) := by
 unfold fdAt U64
 obtain ⟨h1, h2⟩ := hor_bound d p h (min 8 (8 * p + 8 - k))
 refine ⟨h1, Int.lt_of_lt_of_le h2 ?_⟩
 have : (256 : Int) ^ (min 8 (8 * p + 8 - k)) ≤ 256 ^ 8 := pow_le256 (by omega)
 exact this
theorem fdAt_room (d : Nat → Int) (h : ∀ j, 0 ≤ d j ∧ d j < 256) (i p : Nat) (hp : p = i / 8) : 0 ≤ fdAt d (i + 1) p ∧ fdAt d (i + 1) p < 72057594037927936 := by
 unfold fdAt
 obtain ⟨h1, h2⟩ := hor_bound d p h (min 8 (8 * p + 8 - (i + 1)))
 refine ⟨h1, Int.lt_of_lt_of_le h2 ?_⟩
 have : (256 : Int) ^ (min 8 (8 * p + 8 - (i + 1))) ≤ 256 ^ 7 := pow_le256 (by omega)
 exact this
theorem fd_parts (d : Nat → Int) (h : ∀ j, 0 ≤ d j ∧ d j < 256) : lim (valI d 32).toNat 0 = fdAt d 0 0 ∧ lim (valI d 32).toNat 1 = fdAt d 0 1 ∧ lim (valI d 32).toNat 2 = fdAt d 0 2 ∧ lim (valI d 32).toNat 3 = fdAt d 0 3 := by
 refine lim_num (fdAt d 0) _ (fdAt_u64 d h 0 0) (fdAt_u64 d h 0 1) (fdAt_u64 d h 0 2) (fdAt_u64 d h 0 3) ?_
 rw [Int.toNat_of_nonneg (valI_bound d h 32).1]
 have e0 : fdAt d 0 0 = valI (fun j => d (8 * 0 + j)) 8 := hor_eight d 0
 have e1 : fdAt d 0 1 = valI (fun j => d (8 * 1 + j)) 8 := hor_eight d 1
 have e2 : fdAt d 0 2 = valI (fun j => d (8 * 2 + j)) 8 := hor_eight d 2
 have e3 : fdAt d 0 3 = valI (fun j => d (8 * 3 + j)) 8 := hor_eight d 3
 have f1 := valI_add d 24 8
 have f2 := valI_add d 16 8
 have f3 := valI_add d 8 8
 have f4 : valI d 8 = fdAt d 0 0 := by
  rw [e0]; exact valI_congr _ _ 8 (fun j _ => by rw [Nat.mul_zero, Nat.zero_add])
 unfold num
 rw [show valI d 32 = valI d (24 + 8) from rfl, f1, show valI d 24 = valI d (16 + 8) from rfl, f2, show valI d 16 = valI d (8 + 8) from rfl, f3, f4, e1, e2, e3]
 rfl
end
section
open Go Go.RowKit Go.Shelf
attribute [local go_sem] Oper.semAt_some Grows wide_fn
theorem Arr4.mk0' (W : World) (t : TypeId) : Arr4 (W.alloc (.cells #[.int .u64 0, .int .u64 0, .int .u64 0, .int .u64 0] t)) W.heap.size t (fun _ => 0) := World.alloc_heap_new W _
theorem Arr4.later' {W W' : World} {B : Nat} {t : TypeId} {m : Nat → Int} (h : Arr4 W B t m) (hb : Below W.heap.size W W') : Arr4 W' B t m := h.below hb h.lt
theorem Arr4.same4 {W : World} {B : Nat} {t : TypeId} {m m' : Nat → Int} (h : Arr4 W B t m) (h0 : m 0 = m' 0) (h1 : m 1 = m' 1) (h2 : m 2 = m' 2) (h3 : m 3 = m' 3) : Arr4 W B t m' := by
 unfold Arr4 at *
 rw [h, h0, h1, h2, h3]
def IntsAt (W : World) (g n : Nat) (d : Nat → Int) : Prop := ∃ cur, W.heap[g]? = some (.cells cur 3 (0, 0)) ∧ ∀ j, j < n → cur[j]? = some (.int .i64 (d j))
theorem IntsAt.lt {W : World} {g n : Nat} {d : Nat → Int} (h : IntsAt W g n d) : g < W.heap.size := by
 obtain ⟨cur, h1, _⟩ := h
 exact (Array.getElem?_eq_some_iff.1 h1).1
theorem IntsAt.cell {W : World} {g n : Nat} {d : Nat → Int} (h : IntsAt W g n d) {j : Nat} (hj : j < n) : W.cell? ⟨g, j, none⟩ = some (.int .i64 (d j)) := by
 obtain ⟨cur, h1, h2⟩ := h
 simp [World.cell?, h1, h2 j hj]
theorem IntsAt.kept {W W' : World} {row : Option Nat} {g n : Nat} {d : Nat → Int} (h : IntsAt W g n d) (hg : W.grownBy W' row) (hne : some g ≠ row) : IntsAt W' g n d := by
 have hl := h.lt
 obtain ⟨cur, h1, h2⟩ := h
 exact ⟨cur, (hg.block g hl hne).trans h1, h2⟩
theorem IntsAt.below {W W' : World} {g n m : Nat} {d : Nat → Int} (h : IntsAt W g n d) (hb : Below m W W') (hlt : g < m) : IntsAt W' g n d := by
 obtain ⟨cur, h1, h2⟩ := h
 exact ⟨cur, (hb.block g hlt).trans h1, h2⟩
theorem IntsAt.later {W W' : World} {g n : Nat} {d : Nat → Int} (h : IntsAt W g n d) (hb : Below W.heap.size W W') : IntsAt W' g n d := h.below hb h.lt
theorem IntsAt.alloc {W : World} {g n : Nat} {d : Nat → Int} (h : IntsAt W g n d) (o : Obj) : IntsAt (W.alloc o) g n d := h.kept (World.grownBy_alloc W o none) (by simp)
theorem IntsAt.other {W : World} {g n : Nat} {d : Nat → Int} (h : IntsAt W g n d) {p : Addr} (hne : g ≠ p.block) (v : Value) : IntsAt (W.setCell p v) g n d := by
 obtain ⟨cur, h1, h2⟩ := h
 exact ⟨cur, (Below.heap_setCell W p v g hne).trans h1, h2⟩
theorem IntsAt.of_row {W : World} {base n g cap : Nat} {d : Nat → Int} {xs : List Value} (h : W.ownsRow base 3 1 (.slice (some ⟨g, 0, none⟩) n cap) n xs) (hx : ∀ j, j < n → xs[j]? = some (.int .i64 (d j))) : base ≤ g ∧ IntsAt W g n d := by
 rcases h.2 with ⟨h1, _⟩ | ⟨g', cap', cur, h1, hb, hg, _, _, _, ht⟩
 ·cases h1
 ·injection h1 with e1 _ _
  injection e1 with e2
  injection e2 with e3 _ _
  subst e3
  refine ⟨hb, cur, hg, fun j hj => ?_⟩
  have := hx j hj
  rw [← ht, List.getElem?_take] at this
  split at this
  ·simpa using this
  ·cases this
theorem cell_one (w : World) (x : Value) (t : TypeId) : ∀ j u, [x][j]? = some u → (w.alloc (.cells #[x] t)).cell? ((⟨w.heap.size, 0, none⟩ : Addr).add j) = some u := by
 intro j u hj
 match j, hj with
 | 0, hj =>
  simp at hj
  subst hj
  show (w.alloc (.cells #[x] t)).cell? ⟨w.heap.size, 0, none⟩ = some x
  simp only [World.cell?, show (w.alloc (.cells #[x] t)).heap[w.heap.size]? = _ from World.alloc_heap_new w _]
  rfl
 | j + 1, hj => simp at hj
theorem infoI : (Tryd.prog.info? 3).map (fun i => (i.zero, i.size, i.bytes)) = some (some (.int .i64 0), 1, 8) := by kernel_rfl
theorem fromDigits_any (d : Nat → Int) (hd : ∀ j, 0 ≤ d j ∧ d j < 256) (n g cap : Nat) (hn : n ≤ 140737488355328) (hz : ∀ j, n ≤ j → d j = 0) (w : World) (hx : IntsAt w g n d) :
  Calls Tryd.prog 46 #[.slice (some ⟨g, 0, none⟩) n cap] w fun e w' => e = .returned (wv (valI d 32).toNat) ∧ Below w.heap.size w w' := by
 rw [wv_of (fd_parts d hd)]
 have hgl := hx.lt
 have A1 := (Arr4.mk0' w 37).alloc (.cells #[.int .u64 0, .int .u64 0, .int .u64 0, .int .u64 0] 37)
 have A2 := Arr4.mk0' (w.alloc (.cells #[.int .u64 0, .int .u64 0, .int .u64 0, .int .u64 0] 37)) 37
 have X0 := (hx.alloc (.cells #[.int .u64 0, .int .u64 0, .int .u64 0, .int .u64 0] 37)).alloc (.cells #[.int .u64 0, .int .u64 0, .int .u64 0, .int .u64 0] 37)
 have B0 := ((Below.refl _ w).alloc (Nat.le_refl _) (.cells #[.int .u64 0, .int .u64 0, .int .u64 0, .int .u64 0] 37)).alloc (by simp) (.cells #[.int .u64 0, .int .u64 0, .int .u64 0, .int .u64 0] 37)
 have s0 : w.heap.size + 2 ≤ ((w.alloc (.cells #[.int .u64 0, .int .u64 0, .int .u64 0, .int .u64 0] 37)).alloc (.cells #[.int .u64 0, .int .u64 0, .int .u64 0, .int .u64 0] 37)).heap.size := by simp
 rw [World.size_alloc] at A2
 have HZ := Lib.hid hz
 have HD := Lib.hid hd
 clear hx hz hd
 obtain ⟨m, hm⟩ : ∃ m, m = min n 32 := ⟨_, rfl⟩
 have hm32 : m ≤ 32 := by omega
 have hmn : m ≤ n := by omega
 have HM := Lib.hid hm
 go_enter Tryd.func46, Tryd.ntmps46
 by_cases hle : n ≤ 32
 case pos =>
  obtain rfl : m = n := by omega
  have z1 : (m : Int) ≤ 32 := by omega
  have z0 : (0 : Int) ≤ (m : Int) := by omega
  clear hle hm32 hmn hn hm
  go_wp2
  obtain ⟨W0, hW0⟩ : ∃ W0, (w.alloc (.cells #[.int .u64 0, .int .u64 0, .int .u64 0, .int .u64 0] 37)).alloc (.cells #[.int .u64 0, .int .u64 0, .int .u64 0, .int .u64 0] 37) = W0 := ⟨_, rfl⟩
  rw [hW0] at A1 A2 X0 B0 s0 ⊢
  clear hW0
  go_loopw [4] (fun i wr => ∃ (z : Int) (k : Nat), i = .int .i64 z ∧ k ≤ m ∧ z = (k : Int) - 1 ∧ Arr4 wr w.heap.size 37 (fun _ => 0) ∧ Arr4 wr (w.heap.size + 1) 37 (fdAt d k) ∧ IntsAt wr g m d ∧ Below w.heap.size w wr) (fun i _ => (intOf i + 1).toNat)
  case atStart =>
   refine ⟨_, m, rfl, by omega, by omega, A1, ?_, X0, B0⟩
   have hs := fdAt_start d m HZ.out
   rw [← HM.out] at hs
   exact A2.same4 (hs 0 (by omega)).symm (hs 1 (by omega)).symm (hs 2 (by omega)).symm (hs 3 (by omega)).symm
  case round =>
   obtain ⟨z, k, rfl, hk, hz, a1, a2, xx, hB⟩ := hrel
   clear A1 A2 X0 B0 s0
   by_cases hk0 : 0 < k
   ·obtain ⟨i, rfl⟩ : ∃ i, k = i + 1 := ⟨k - 1, by omega⟩
    obtain rfl : z = (i : Int) := by omega
    have hiM : i < m := by omega
    have hi32 : i < 32 := by have := HM.out; omega
    have hiN : i < m := by have := HM.out; omega
    obtain ⟨p, hp⟩ : ∃ p, p = i / 8 := ⟨_, rfl⟩
    have hp4 : p < 4 := by omega
    have hq : ((i : Int).tdiv 8) = (p : Int) := by rw [Int.tdiv_eq_ediv_of_nonneg (by omega)]; omega
    have hst := Lib.hid (fdAt_step d i p hp)
    obtain ⟨hr0, hr1⟩ := fdAt_room d HD.out i p hp
    obtain ⟨hd0, hd1⟩ := HD.out i
    have cp := a2.cell hp4
    have fp := a2.frozen p
    have cd := xx.cell hiN
    have hi0 : (0 : Int) ≤ (i : Int) := by omega
    have hiI : (i : Int) < (m : Int) := by omega
    have hi31 : (i : Int) < 32 := by omega
    have hp0 : (0 : Int) ≤ (p : Int) := by omega
    have hpI : (p : Int) < 4 := by omega
    have HA1 := Lib.hid a1
    have HA2 := Lib.hid a2
    have HX := Lib.hid xx
    have HB := Lib.hid hB
    have HI := Lib.hid hiM
    have hmx : Tryd.prog.follows .mixedOrders = true := by kernel_rfl
    have hgw : g ≠ w.heap.size + 1 := by omega
    clear hk hz hk0 a1 a2 xx hB hiM hi32 hiN hp hp4
    generalize fdAt d (i + 1) = ff at *
    generalize d i = di at *
    have ecp : ∀ x : Ext wr, x.w.cell? ⟨w.heap.size + 1, p, none⟩ = some (.int .u64 (ff p)) := fun x => (x.cell (p := ⟨_, p, none⟩) HA2.out.lt).trans cp
    have efp : ∀ x : Ext wr, x.w.frozen? ⟨w.heap.size + 1, p, none⟩ = false := fun x => (x.frozen (p := ⟨_, p, none⟩) HA2.out.lt).trans fp
    have ecd : ∀ x : Ext wr, x.w.cell? ⟨g, i, none⟩ = some (.int .i64 di) := fun x => (x.cell (p := ⟨g, i, none⟩) HX.out.lt).trans cd
    clear cp fp cd
    go_wp2
    refine wp_region_mix (C := Grows wr) [some true, some true, some true, some true, some true, some true, some true, some true, some true, some true, some true, some true, some true, some true, none] hmx (by kernel_rfl) (by kernel_rfl) (grows_refl wr) ?_
    simp only [headOf, tailOf]
    repeat (go_big_quiet_step (fail))
    refine wpQuiet_nil ?_
    rintro _ ⟨x, rfl⟩
    have N1 := Lib.hid ((HA1.out.later' x.below).other (p := ⟨w.heap.size + 1, p, none⟩) (by simp) (.int .u64 (ff p * 256 + di)))
    have N2 := Lib.hid ((HA2.out.later' x.below).set (k := p) (by omega) (ff p * 256 + di))
    have N3 := Lib.hid ((HX.out.later x.below).other (p := ⟨w.heap.size + 1, p, none⟩) hgw (.int .u64 (ff p * 256 + di)))
    have N4 := Lib.hid ((HB.out.trans (x.below.mono HB.out.size)).setCell (p := ⟨w.heap.size + 1, p, none⟩) (by simp) (.int .u64 (ff p * 256 + di)))
    go_wp2
    rw [calmPost_normal]
    go_wp2
    go_roundw
    case rel => exact ⟨(i : Int) - 1, i, by simp, by have := HI.out; omega, rfl, N1.out, by rw [hst.out]; exact N2.out, N3.out, N4.out⟩
    case measure => first | (simp [intOf]; done) | (simp [intOf]; omega)
   ·obtain rfl : k = 0 := by omega
    obtain rfl : z = -1 := by omega
    have HA1 := Lib.hid a1
    have HB := Lib.hid hB
    have c0 := a2.cell (j := 0) (by omega)
    have c1 := a2.cell (j := 1) (by omega)
    have c2 := a2.cell (j := 2) (by omega)
    have c3 := a2.cell (j := 3) (by omega)
    have f0 := a1.frozen 0
    have f1 := a1.frozen 1
    have f2 := a1.frozen 2
    have f3 := a1.frozen 3
    have d0 := a1.cell (j := 0) (by omega)
    have d1 := a1.cell (j := 1) (by omega)
    have d2 := a1.cell (j := 2) (by omega)
    have d3 := a1.cell (j := 3) (by omega)
    clear hk hz hk0 a1 a2 xx hB
    go_wp2
    refine bodyPost_ret (results_word rfl rfl (HA1.out.store _)) rfl ⟨rfl, ?_⟩
    exact (((HB.out.setCell (p := ⟨w.heap.size, 0, none⟩) (by simp) _).setCell (p := ⟨w.heap.size, 1, none⟩) (by simp) _).setCell (p := ⟨w.heap.size, 2, none⟩) (by simp) _).setCell (p := ⟨w.heap.size, 3, none⟩) (by simp) _
 case neg =>
  have z1 : (32 : Int) < (n : Int) := by omega
  have z2 : (32 : Int) ≤ (n : Int) := by omega
  have z3 : ¬ (n : Int) ≤ 32 := by omega
  have z4 : ¬ (n : Int) < 32 := by omega
  have z5 : (n : Int) ≤ 140737488355328 := by omega
  obtain rfl : m = 32 := by omega
  clear hle hm32 hmn hn hm
  go_wp2
  obtain ⟨W0, hW0⟩ : ∃ W0, (w.alloc (.cells #[.int .u64 0, .int .u64 0, .int .u64 0, .int .u64 0] 37)).alloc (.cells #[.int .u64 0, .int .u64 0, .int .u64 0, .int .u64 0] 37) = W0 := ⟨_, rfl⟩
  rw [hW0] at A1 A2 X0 B0 s0 ⊢
  clear hW0
  go_loopw [4] (fun i wr => ∃ (z : Int) (k : Nat), i = .int .i64 z ∧ k ≤ 32 ∧ z = (k : Int) - 1 ∧ Arr4 wr w.heap.size 37 (fun _ => 0) ∧ Arr4 wr (w.heap.size + 1) 37 (fdAt d k) ∧ IntsAt wr g n d ∧ Below w.heap.size w wr) (fun i _ => (intOf i + 1).toNat)
  case atStart =>
   refine ⟨_, 32, rfl, by omega, by omega, A1, ?_, X0, B0⟩
   have hs := fdAt_start d n HZ.out
   rw [← HM.out] at hs
   exact A2.same4 (hs 0 (by omega)).symm (hs 1 (by omega)).symm (hs 2 (by omega)).symm (hs 3 (by omega)).symm
  case round =>
   obtain ⟨z, k, rfl, hk, hz, a1, a2, xx, hB⟩ := hrel
   clear A1 A2 X0 B0 s0
   by_cases hk0 : 0 < k
   ·obtain ⟨i, rfl⟩ : ∃ i, k = i + 1 := ⟨k - 1, by omega⟩
    obtain rfl : z = (i : Int) := by omega
    have hiM : i < 32 := by omega
    have hi32 : i < 32 := by have := HM.out; omega
    have hiN : i < n := by have := HM.out; omega
    obtain ⟨p, hp⟩ : ∃ p, p = i / 8 := ⟨_, rfl⟩
    have hp4 : p < 4 := by omega
    have hq : ((i : Int).tdiv 8) = (p : Int) := by rw [Int.tdiv_eq_ediv_of_nonneg (by omega)]; omega
    have hst := Lib.hid (fdAt_step d i p hp)
    obtain ⟨hr0, hr1⟩ := fdAt_room d HD.out i p hp
    obtain ⟨hd0, hd1⟩ := HD.out i
    have cp := a2.cell hp4
    have fp := a2.frozen p
    have cd := xx.cell hiN
    have hi0 : (0 : Int) ≤ (i : Int) := by omega
    have hiI : (i : Int) < (n : Int) := by omega
    have hi31 : (i : Int) < 32 := by omega
    have hp0 : (0 : Int) ≤ (p : Int) := by omega
    have hpI : (p : Int) < 4 := by omega
    have HA1 := Lib.hid a1
    have HA2 := Lib.hid a2
    have HX := Lib.hid xx
    have HB := Lib.hid hB
    have HI := Lib.hid hiM
    have hmx : Tryd.prog.follows .mixedOrders = true := by kernel_rfl
    have hgw : g ≠ w.heap.size + 1 := by omega
    clear hk hz hk0 a1 a2 xx hB hiM hi32 hiN hp hp4
    generalize fdAt d (i + 1) = ff at *
    generalize d i = di at *
    have ecp : ∀ x : Ext wr, x.w.cell? ⟨w.heap.size + 1, p, none⟩ = some (.int .u64 (ff p)) := fun x => (x.cell (p := ⟨_, p, none⟩) HA2.out.lt).trans cp
    have efp : ∀ x : Ext wr, x.w.frozen? ⟨w.heap.size + 1, p, none⟩ = false := fun x => (x.frozen (p := ⟨_, p, none⟩) HA2.out.lt).trans fp
    have ecd : ∀ x : Ext wr, x.w.cell? ⟨g, i, none⟩ = some (.int .i64 di) := fun x => (x.cell (p := ⟨g, i, none⟩) HX.out.lt).trans cd
    clear cp fp cd
    go_wp2
    refine wp_region_mix (C := Grows wr) [some true, some true, some true, some true, some true, some true, some true, some true, some true, some true, some true, some true, some true, some true, none] hmx (by kernel_rfl) (by kernel_rfl) (grows_refl wr) ?_
    simp only [headOf, tailOf]
    repeat (go_big_quiet_step (fail))
    refine wpQuiet_nil ?_
    rintro _ ⟨x, rfl⟩
    have N1 := Lib.hid ((HA1.out.later' x.below).other (p := ⟨w.heap.size + 1, p, none⟩) (by simp) (.int .u64 (ff p * 256 + di)))
    have N2 := Lib.hid ((HA2.out.later' x.below).set (k := p) (by omega) (ff p * 256 + di))
    have N3 := Lib.hid ((HX.out.later x.below).other (p := ⟨w.heap.size + 1, p, none⟩) hgw (.int .u64 (ff p * 256 + di)))
    have N4 := Lib.hid ((HB.out.trans (x.below.mono HB.out.size)).setCell (p := ⟨w.heap.size + 1, p, none⟩) (by simp) (.int .u64 (ff p * 256 + di)))
    go_wp2
    rw [calmPost_normal]
    go_wp2
    go_roundw
    case rel => exact ⟨(i : Int) - 1, i, by simp, by have := HI.out; omega, rfl, N1.out, by rw [hst.out]; exact N2.out, N3.out, N4.out⟩
    case measure => first | (simp [intOf]; done) | (simp [intOf]; omega)
   ·obtain rfl : k = 0 := by omega
    obtain rfl : z = -1 := by omega
    have HA1 := Lib.hid a1
    have HB := Lib.hid hB
    have c0 := a2.cell (j := 0) (by omega)
    have c1 := a2.cell (j := 1) (by omega)
    have c2 := a2.cell (j := 2) (by omega)
    have c3 := a2.cell (j := 3) (by omega)
    have f0 := a1.frozen 0
    have f1 := a1.frozen 1
    have f2 := a1.frozen 2
    have f3 := a1.frozen 3
    have d0 := a1.cell (j := 0) (by omega)
    have d1 := a1.cell (j := 1) (by omega)
    have d2 := a1.cell (j := 2) (by omega)
    have d3 := a1.cell (j := 3) (by omega)
    clear hk hz hk0 a1 a2 xx hB
    go_wp2
    refine bodyPost_ret (results_word rfl rfl (HA1.out.store _)) rfl ⟨rfl, ?_⟩
    exact (((HB.out.setCell (p := ⟨w.heap.size, 0, none⟩) (by simp) _).setCell (p := ⟨w.heap.size, 1, none⟩) (by simp) _).setCell (p := ⟨w.heap.size, 2, none⟩) (by simp) _).setCell (p := ⟨w.heap.size, 3, none⟩) (by simp) _
theorem refOf_ret (n : Int) (h : I64 n) : Ret Tryd.prog 24 #[.int .i64 n] (wv (ofN n)) := by
 intro w
 have hI := h
 unfold I64 at h
 by_cases hn : n < 0
 ·rw [wv_of (of_neg n hI hn)]
  have hw : IntKind.u64.wrap n = 18446744073709551616 + n := by rw [IntKind.wrap_u64]; omega
  have h1 : -9223372036854775808 ≤ n := h.1
  obtain ⟨x, hx⟩ : ∃ x, x = 18446744073709551616 + n := ⟨_, rfl⟩
  rw [← hx] at hw ⊢
  have hx0 : 0 ≤ x := by omega
  have hx1 : x < 18446744073709551616 := by omega
  clear h hI hx
  go_enter Tryd.func24, Tryd.ntmps24
  go_wp2
  have A1 := (Arr4.mk0' w 37).alloc (.cells #[.int .u64 x, .int .u64 0, .int .u64 0, .int .u64 0] 37)
  have A2 := Arr4.new (w.alloc (.cells #[.int .u64 0, .int .u64 0, .int .u64 0, .int .u64 0] 37)) 37 x 0 0 0
  have B0 := ((Below.refl _ w).alloc (Nat.le_refl _) (.cells #[.int .u64 0, .int .u64 0, .int .u64 0, .int .u64 0] 37)).alloc (by simp) (.cells #[.int .u64 x, .int .u64 0, .int .u64 0, .int .u64 0] 37)
  rw [World.size_alloc] at A2
  obtain ⟨W0, hW0⟩ : ∃ W0, (w.alloc (.cells #[.int .u64 0, .int .u64 0, .int .u64 0, .int .u64 0] 37)).alloc (.cells #[.int .u64 x, .int .u64 0, .int .u64 0, .int .u64 0] 37) = W0 := ⟨_, rfl⟩
  rw [hW0] at A1 A2 B0 ⊢
  clear hW0
  go_loopw [4] (fun i wr => ∃ k : Nat, 1 ≤ k ∧ k ≤ 4 ∧ i = .int .i64 (k : Int) ∧ Arr4 wr w.heap.size 37 (fun _ => 0) ∧ Arr4 wr (w.heap.size + 1) 37 (fun j => if j = 0 then x else if j < k then 18446744073709551615 else 0) ∧ Below w.heap.size w wr) (fun i _ => 4 - (intOf i).toNat)
  case atStart => exact ⟨1, by omega, by omega, rfl, A1, A2.same4 rfl rfl rfl rfl, B0⟩
  case round =>
   obtain ⟨k, hk1, hk, rfl, a1, a2, hB⟩ := hrel
   clear A1 A2 B0
   by_cases hlt : k < 4
   ·have hkI : (k : Int) < 4 := by omega
    have hk0 : (0 : Int) ≤ (k : Int) := by omega
    have fp := a2.frozen k
    have cp := a2.cell hlt
    have N1 := Lib.hid (a1.other (p := ⟨w.heap.size + 1, k, none⟩) (by simp) (.int .u64 18446744073709551615))
    have N2 := Lib.hid (a2.set hlt 18446744073709551615)
    have N3 := Lib.hid (hB.setCell (p := ⟨w.heap.size + 1, k, none⟩) (by simp) (.int .u64 18446744073709551615))
    have HK := Lib.hid (And.intro hk1 hlt)
    clear hk1 hk hlt a1 a2 hB
    go_wp2
    go_roundw
    case rel =>
     have hk := HK.out
     refine ⟨k + 1, by omega, by omega, by simp, N1.out, ?_, N3.out⟩
     have e : (fun j => if j = 0 then x else if j < k + 1 then (18446744073709551615 : Int) else 0) = (fun j => if j = k then 18446744073709551615 else if j = 0 then x else if j < k then 18446744073709551615 else 0) := by
      funext j
      by_cases e1 : j = k
      ·rw [if_pos e1, if_neg (by omega), if_pos (by omega)]
      ·rw [if_neg e1]
       by_cases e2 : j = 0
       ·rw [if_pos e2, if_pos e2]
       ·rw [if_neg e2, if_neg e2]
        by_cases e3 : j < k
        ·rw [if_pos e3, if_pos (by omega)]
        ·rw [if_neg e3, if_neg (by omega)]
     rw [e]
     exact N2.out
    case measure => have := HK.out; simp [intOf]; omega
   ·obtain rfl : k = 4 := by omega
    have c0 : wr.cell? ⟨w.heap.size + 1, 0, none⟩ = some (.int .u64 x) := a2.cell (j := 0) (by omega)
    have c1 : wr.cell? ⟨w.heap.size + 1, 1, none⟩ = some (.int .u64 18446744073709551615) := a2.cell (j := 1) (by omega)
    have c2 : wr.cell? ⟨w.heap.size + 1, 2, none⟩ = some (.int .u64 18446744073709551615) := a2.cell (j := 2) (by omega)
    have c3 : wr.cell? ⟨w.heap.size + 1, 3, none⟩ = some (.int .u64 18446744073709551615) := a2.cell (j := 3) (by omega)
    have f0 := a1.frozen 0
    have f1 := a1.frozen 1
    have f2 := a1.frozen 2
    have f3 := a1.frozen 3
    have d0 := a1.cell (j := 0) (by omega)
    have d1 := a1.cell (j := 1) (by omega)
    have d2 := a1.cell (j := 2) (by omega)
    have d3 := a1.cell (j := 3) (by omega)
    have HA1 := Lib.hid a1
    have HB := Lib.hid hB
    clear hk1 hk hlt a1 a2 hB
    go_wp2
    refine bodyPost_ret (results_word rfl rfl (HA1.out.store (fun j => if j = 0 then x else 18446744073709551615))) rfl ⟨rfl, ?_⟩
    exact (((HB.out.setCell (p := ⟨w.heap.size, 0, none⟩) (by simp) _).setCell (p := ⟨w.heap.size, 1, none⟩) (by simp) _).setCell (p := ⟨w.heap.size, 2, none⟩) (by simp) _).setCell (p := ⟨w.heap.size, 3, none⟩) (by simp) _
 ·rw [wv_of (of_pos n hI hn)]
  have hn0 : 0 ≤ n := by omega
  have hn1 : n ≤ 9223372036854775807 := h.2
  have hw : IntKind.u64.wrap n = n := by rw [IntKind.wrap_u64]; omega
  have hn2 : n < 18446744073709551616 := by omega
  clear h hI
  go_enter Tryd.func24, Tryd.ntmps24
  go_wp2
  refine bodyPost_ret (results_word rfl rfl ((Arr4.new w 37 n 0 0 0).alloc (.cells #[.int .u64 n, .int .u64 0, .int .u64 0, .int .u64 0] 37))) rfl ⟨rfl, ?_⟩
  exact ((Below.refl _ w).alloc (Nat.le_refl _) _).alloc (by simp) _

end
section
open Go Go.RowKit
theorem octVal_from : ∀ (l : List UInt8) (n : Nat), octVal n l = n * 256 ^ l.length + octVal 0 l
 | [], n => by simp [octVal]
 | c :: r, n => by
  simp only [octVal, List.length_cons]
  rw [octVal_from r (n * 256 + c.toNat), octVal_from r (0 * 256 + c.toNat), Nat.pow_succ]
  rw [Nat.add_mul, Nat.add_mul, Nat.mul_assoc, Nat.mul_comm 256, Nat.zero_mul]
  omega
end
end Go.Proofs.YthcmfadofogfaaaDoor
