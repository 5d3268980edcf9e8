/- number: the word of a text of digits. For every text that is not beyond the model's reach. -/
import Derived.Test.YtgejdkiehcpinaaDoorWordJ
namespace Go.Proofs.YtgejdkiehcpinaaDoor
open Go Go.RowKit Go.Shelf
attribute [local go_sem] Oper.semAt_some Grows wide_fn

def NumSt (w : World) (K : Kind) (s : ByteArray) (k : Nat) (W : World) : Prop :=
  ∃ m, numFrom K 0 (s.data.toList.take (7 * k)) = some m ∧ W256 m ∧ (Arr4 W w.heap.size 24 (fun _ => 0) ∧ Boxed W (w.heap.size + 1) 4 (.bool false) ∧ Arr4 W (w.heap.size + 1 + 1) 24 (lim m) ∧ Boxed W (w.heap.size + 1 + 1 + 1) 9 (.string s)) ∧ Below w.heap.size w W
theorem NumSt.own (w : World) (K : Kind) (s : ByteArray) (B : Nat) (hB : w.heap.size ≤ B) : OwnFrom B (fun k W => NumSt w K s k W) := by
  rintro k X Y row ⟨m, h1, h2, ⟨b0, b1, b2, b3⟩, h4⟩ hg hr
  have hr' : ∀ r, row = some r → ∃ o : Obj, X.heap[r]? = some o ∧ o.isCells = false := fun r e => (hr r e).2
  exact ⟨m, h1, h2, ⟨Arr4.own _ _ (fun _ : Unit => fun _ => 0) () X Y row b0 hg hr', boxed_own _ _ (fun _ : Unit => _) () X Y row b1 hg hr', Arr4.own _ _ (fun _ : Unit => _) () X Y row b2 hg hr', boxed_own _ _ (fun _ : Unit => _) () X Y row b3 hg hr'⟩,
    ownFrom_below (β := Unit) (Nat.le_refl _) hB () X Y row h4 hg hr⟩
/-- A round that says that it is no number. -/
def NumBad (w : World) (W : World) : Prop := Arr4 W w.heap.size 24 (fun _ => 0) ∧ Boxed W (w.heap.size + 1) 4 (.bool false) ∧ Below w.heap.size w W
theorem NumBad.own (w : World) (B : Nat) (hB : w.heap.size ≤ B) : OwnFrom B (fun (_ : Nat) W => NumBad w W) := by
  rintro k X Y row ⟨b0, b1, h4⟩ hg hr
  have hr' : ∀ r, row = some r → ∃ o : Obj, X.heap[r]? = some o ∧ o.isCells = false := fun r e => (hr r e).2
  exact ⟨Arr4.own _ _ (fun _ : Unit => fun _ => 0) () X Y row b0 hg hr', boxed_own _ _ (fun _ : Unit => _) () X Y row b1 hg hr', ownFrom_below (β := Unit) (Nat.le_refl _) hB () X Y row h4 hg hr⟩
theorem Arr4.store0 {W : World} {B : Nat} {t : TypeId} (h : Arr4 W B t (fun _ => 0)) :
    Arr4 ((((W.setCell ⟨B, 0, none⟩ (.int .u64 0)).setCell ⟨B, 1, none⟩ (.int .u64 0)).setCell ⟨B, 2, none⟩ (.int .u64 0)).setCell ⟨B, 3, none⟩ (.int .u64 0)) B t (fun _ => 0) := h.store (fun _ => 0)
theorem Boxed.refix {W : World} {B : Nat} {t : TypeId} {v : Value} (h : Boxed W B t v) : Boxed (W.setCell ⟨B, 0, none⟩ v) B t v := h.set v

set_option maxRecDepth 100000 in
set_option maxHeartbeats 4000000 in
theorem number_oct (s : ByteArray) (hs : s.size ≤ 140737488355328) : Ret Tryd.prog 51 #[.string s] (numV octK s.data.toList) := by
  intro w
  have h1 : 1 ≤ 4 := by omega
  refine (callsIn_wide (n := 4)).1 ?_
  refine callsIn_of_wp_marks Tryd.func51 rfl trivial ?_ rfl
  simp only [Tryd.ntmps51, List.size_toArray, List.length_cons, List.length_nil, Nat.reduceAdd, Nat.reduceSub, Array.replicate_succ, Array.replicate_zero, List.push_toArray, List.append_toArray, List.nil_append, List.cons_append]
  gi_wp2_with (gi_at_call 60; refine (callsIn_free free_wide (pieces_any _ _)).mono ?_; rintro e w' ⟨rfl, rfl⟩)
  obtain ⟨W0, hW0⟩ : ∃ W0, ((((w.alloc (.cells #[.int .u64 0, .int .u64 0, .int .u64 0, .int .u64 0] 24)).alloc (.cells #[.bool false] 4)).alloc (.cells #[.int .u64 0, .int .u64 0, .int .u64 0, .int .u64 0] 24)).alloc (.cells #[.string s] 9)) = W0 := ⟨_, rfl⟩
  have hsz : W0.heap.size = w.heap.size + 4 := by rw [← hW0]; simp
  have hJ0 : NumSt w octK s 0 W0 := by
    rw [← hW0]
    refine ⟨0, rfl, by unfold W256; decide, ⟨?_, ?_, ?_, ?_⟩, ((((Below.refl _ w).alloc (Nat.le_refl _) _).alloc (by simp) _).alloc (by simp; omega) _).alloc (by simp; omega) _⟩
    · have h := World.alloc_heap_new w (.cells #[.int .u64 0, .int .u64 0, .int .u64 0, .int .u64 0] 24)
      exact (((Arr4.alloc (m := fun _ => 0) h _).alloc _).alloc _)
    · have h := Boxed.new (w.alloc (.cells #[.int .u64 0, .int .u64 0, .int .u64 0, .int .u64 0] 24)) 4 (.bool false)
      rw [World.size_alloc] at h
      exact (h.alloc _).alloc _
    · have h := World.alloc_heap_new ((w.alloc (.cells #[.int .u64 0, .int .u64 0, .int .u64 0, .int .u64 0] 24)).alloc (.cells #[.bool false] 4)) (.cells #[.int .u64 0, .int .u64 0, .int .u64 0, .int .u64 0] 24)
      rw [World.size_alloc, World.size_alloc] at h
      exact Arr4.alloc (m := lim 0) h _
    · have h := Boxed.new (((w.alloc (.cells #[.int .u64 0, .int .u64 0, .int .u64 0, .int .u64 0] 24)).alloc (.cells #[.bool false] 4)).alloc (.cells #[.int .u64 0, .int .u64 0, .int .u64 0, .int .u64 0] 24)) 9 (.string s)
      simpa using h
  rw [hW0]
  clear hW0
  have hcP := hJ0
  obtain ⟨_, _, _, ⟨_, _, _, bP⟩, _⟩ := hcP
  refine wpIn_rangeFunc_N1 rfl h1 (gf := 70) (lb := #[.pointer (some ⟨w.heap.size + 1 + 1 + 1, 0, none⟩)]) rfl trivial (enters_of Tryd.func70 (by kernel_rfl) rfl)
    (pieces_seq _ (by omega) _ s hs W0 (by omega) bP.cell) KeepsAt.trans (KeepsAt.refl _) (KeepsAt.b (by simp; omega)) (fun _ _ => rfl)
    (fun k W => NumSt w octK s k W)
    (fun c k W => c = .ret ∧ Hid (numV octK s.data.toList = .tuple #[.agg #[.int .u64 0, .int .u64 0, .int .u64 0, .int .u64 0], .bool false]) ∧ NumBad w W)
    (NumSt.own w octK s _ (by omega))
    (fun c => OwnFrom.and (ownFrom_pure _ _) (OwnFrom.and (ownFrom_pure _ _) (NumBad.own w _ (by omega))))
    hJ0
    (fun k => { tmps := #[.string s, undef, .pointer (some ⟨w.heap.size, 0, none⟩), .pointer (some ⟨w.heap.size + 1, 0, none⟩), .pointer (some ⟨w.heap.size + 1 + 1, 0, none⟩), .string (piece s k), undef, undef, undef, undef, .agg #[.int .u64 0, .int .u64 0, .int .u64 0, .int .u64 0], .string s, .func (.func 70) #[] #[.pointer (some ⟨w.heap.size + 1 + 1 + 1, 0, none⟩)], .string (piece s k), undef, undef, undef, undef, undef, undef, undef, undef, undef, undef, undef, undef, undef, undef, undef, undef, undef, undef, undef], defers := [] }) ?assign ?body ?done ?stop
  case assign =>
    intro l k W K _ hK
    gi_wp2
    exact hK
  case body =>
    rintro l k W _ hkN ⟨m, hm, hm256, ⟨b0, b1, b2, b3⟩, hB⟩
    have hsm := small_oct (piece s k) (piece_size s k)
    have c0 := b0.cell (j := 0) (by omega)
    have c1 := b0.cell (j := 1) (by omega)
    have c2 := b0.cell (j := 2) (by omega)
    have c3 := b0.cell (j := 3) (by omega)
    have f0 := b0.frozen 0
    have f1 := b0.frozen 1
    have f2 := b0.frozen 2
    have f3 := b0.frozen 3
    have d1 := b1.cell
    have g1 := b1.frozen
    have hl1 := b1.lt
    have hl2 := b2.lt
    have hl3 := b3.lt
    cases hd : numFrom octK 0 (piece s k).data.toList with
    | none =>
      have hv : smallV octK (piece s k).data.toList = .tuple #[.int .u64 0, .int .u64 0, .bool false] := by unfold smallV; rw [hd]
      rw [hv] at hsm
      have HS := Lib.hid hsm
      have HBAD : Hid (numV octK s.data.toList = .tuple #[.agg #[.int .u64 0, .int .u64 0, .int .u64 0, .int .u64 0], .bool false]) := numV_bad _ _ _ (numFrom_piece_none octK s k m hm hd)
      have HW := Lib.hid (show NumBad w W from ⟨b0, b1, hB⟩)
      clear hv hd hsm hm hm256 b0 b1 b2 b3 hB hJ0 bP
      gi_wp2_with (gi_at_call 64; refine (callsIn_free (free_round l) (HS.out _)).mono ?_; rintro e w' ⟨rfl, rfl⟩)
      obtain ⟨b0, b1, hB⟩ := HW.out
      exact ⟨((((((KeepsOthers.setCell _ _ _).trans (KeepsOthers.setCell _ _ _)).trans (KeepsOthers.setCell _ _ _)).trans (KeepsOthers.setCell _ _ _)).trans (KeepsOthers.setCell _ _ _))).from _, rfl, HBAD,
        Arr4.other b0.store0 (by simp) _, Boxed.refix (Boxed.away (Boxed.away (Boxed.away (Boxed.away b1 (by simp) _) (by simp) _) (by simp) _) (by simp) _), ((((hB.setCell (p := ⟨w.heap.size, 0, none⟩) (by simp) _).setCell (p := ⟨w.heap.size, 1, none⟩) (by simp) _).setCell (p := ⟨w.heap.size, 2, none⟩) (by simp) _).setCell (p := ⟨w.heap.size, 3, none⟩) (by simp) _).setCell (p := ⟨w.heap.size + 1, 0, none⟩) (by simp) _⟩
    | some n =>
      have hv : smallV octK (piece s k).data.toList = .tuple #[.int .u64 (n : Int), .int .u64 ((octK.base ^ (piece s k).data.toList.length : Nat) : Int), .bool true] := by unfold smallV; rw [hd]
      rw [hv] at hsm
      have hn := small_lt octK s k n hd
      have hu := unit_lt octK s k
      have hnext := numFrom_piece octK s k m n hm hd
      generalize octK.base ^ (piece s k).data.toList.length = U at *
      obtain ⟨hp1, hp2⟩ := scale_parts m U n hm256 hu hn
      have hsc := fun W' h1 h2 => scale_any (lim m) (U : Int) (n : Int) (lim_u64 m) ⟨by omega, by omega⟩ ⟨by omega, by omega⟩ (w.heap.size + 1 + 1) W' h1 h2
      rw [hp1 0 (by omega), hp1 1 (by omega), hp1 2 (by omega), hp1 3 (by omega), hp2] at hsc
      have HS := Lib.hid hsm
      have HSC := Lib.hid (hsc W b2.lt (fun j hj => b2.cell hj))
      have HW := Lib.hid (show Arr4 W w.heap.size 24 (fun _ => 0) ∧ Boxed W (w.heap.size + 1) 4 (.bool false) ∧ Arr4 W (w.heap.size + 1 + 1) 24 (lim m) ∧ Boxed W (w.heap.size + 1 + 1 + 1) 9 (.string s) ∧ Below w.heap.size w W from ⟨b0, b1, b2, b3, hB⟩)
      by_cases hgr : m * U + n < 115792089237316195423570985008687907853269984665640564039457584007913129639936
      · have h0 : (((m * U + n) / 115792089237316195423570985008687907853269984665640564039457584007913129639936 : Nat) : Int) = 0 := by rw [Nat.div_eq_of_lt hgr]; rfl
        rw [h0] at HSC
        rw [wmod_of hgr] at HSC
        have HN := Lib.hid hnext
        have HG : Hid (W256 (m * U + n)) := hgr
        clear hv hd hsm hm hm256 b0 b1 b2 b3 hB hJ0 bP hsc hp1 hp2 hnext hgr h0 hn hu
        generalize m * U + n = m' at *
        gi_wp2_with fail
        refine (callsIn_free (free_round l) (HS.out _)).mono ?_
        rintro e w' ⟨rfl, rfl⟩
        clear HS
        gi_wp2_with fail
        refine (callsIn_free (free_round l) HSC.out).mono ?_
        rintro e w1 ⟨rfl, hb1⟩
        obtain ⟨b0, b1, b2, b3, hB⟩ := HW.out
        have a0 := Arr4.below b0 hb1 b0.lt
        have a1 := Boxed.below b1 hb1 b1.lt
        have a2 := Arr4.below b2 hb1 b2.lt
        have a3 := Boxed.below b3 hb1 b3.lt
        have BB := hB.trans (hb1.mono hB.size)
        have KF : KeepsFrom W0.heap.size W w1 := ⟨hb1.size, fun k o _ h _ => (hb1.block k (Array.getElem?_eq_some_iff.1 h).1).trans h⟩
        have KA : KeepsAt [w.heap.size + 1 + 1 + 1] W w1 := (KeepsAt.refl _ W).below hb1 (fun b hb => by simp at hb; omega)
        have k0 := a2.cell (j := 0) (by omega)
        have k1 := a2.cell (j := 1) (by omega)
        have k2 := a2.cell (j := 2) (by omega)
        have k3 := a2.cell (j := 3) (by omega)
        have z0 := a2.frozen 0
        have z1 := a2.frozen 1
        have z2 := a2.frozen 2
        have z3 := a2.frozen 3
        have HA := Lib.hid (And.intro a0 (And.intro a1 (And.intro a2 (And.intro a3 BB))))
        have HK := Lib.hid (And.intro KF KA)
        clear a0 a1 a2 a3 BB b0 b1 b2 b3 hB hb1 HW HSC KF KA c0 c1 c2 c3 d1 f0 f1 f2 f3 g1
        gi_wp2
        obtain ⟨a0, a1, a2, a3, BB⟩ := HA.out
        obtain ⟨KF, KA⟩ := HK.out
        refine ⟨KF.trans (((((KeepsOthers.setCell _ _ _).trans (KeepsOthers.setCell _ _ _)).trans (KeepsOthers.setCell _ _ _)).trans (KeepsOthers.setCell _ _ _)).from _), (((KA.setCell (by simp) _).setCell (by simp) _).setCell (by simp) _).setCell (by simp) _, m', HN.out, HG.out, ⟨?_, ?_, ?_, ?_⟩, ?_⟩
        · exact Arr4.other (Arr4.other (Arr4.other (Arr4.other a0 (by simp; omega) _) (by simp; omega) _) (by simp; omega) _) (by simp; omega) _
        · exact Boxed.away (Boxed.away (Boxed.away (Boxed.away a1 (by simp) _) (by simp) _) (by simp) _) (by simp) _
        · exact Arr4.store a2 (lim m')
        · exact Boxed.away (Boxed.away (Boxed.away (Boxed.away a3 (by simp) _) (by simp) _) (by simp) _) (by simp) _
        · exact (((BB.setCell (p := ⟨w.heap.size + 1 + 1, 0, none⟩) (by simp; omega) _).setCell (p := ⟨w.heap.size + 1 + 1, 1, none⟩) (by simp; omega) _).setCell (p := ⟨w.heap.size + 1 + 1, 2, none⟩) (by simp; omega) _).setCell (p := ⟨w.heap.size + 1 + 1, 3, none⟩) (by simp; omega) _
      · have HBAD : Hid (numV octK s.data.toList = .tuple #[.agg #[.int .u64 0, .int .u64 0, .int .u64 0, .int .u64 0], .bool false]) := numV_great _ _ _ _ hnext hgr
        have h0 : (((((m * U + n) / 115792089237316195423570985008687907853269984665640564039457584007913129639936 : Nat) : Int) != 0) = true) := by
          have : 1 ≤ (m * U + n) / 115792089237316195423570985008687907853269984665640564039457584007913129639936 := (Nat.le_div_iff_mul_le (by decide)).2 (by omega)
          simp; omega
        generalize (((m * U + n) / 115792089237316195423570985008687907853269984665640564039457584007913129639936 : Nat) : Int) = q at *
        clear hv hd hsm hm hm256 b0 b1 b2 b3 hB hJ0 bP hsc hp1 hp2 hnext hgr hn hu
        generalize wmod (m * U + n) = m' at *
        gi_wp2_with fail
        refine (callsIn_free (free_round l) (HS.out _)).mono ?_
        rintro e w' ⟨rfl, rfl⟩
        clear HS
        gi_wp2_with fail
        refine (callsIn_free (free_round l) HSC.out).mono ?_
        rintro e w1 ⟨rfl, hb1⟩
        obtain ⟨b0, b1, b2, b3, hB⟩ := HW.out
        have a0 := Arr4.below b0 hb1 b0.lt
        have a1 := Boxed.below b1 hb1 b1.lt
        have a2 := Arr4.below b2 hb1 b2.lt
        have BB := hB.trans (hb1.mono hB.size)
        have KF : KeepsFrom W0.heap.size W w1 := ⟨hb1.size, fun k o _ h _ => (hb1.block k (Array.getElem?_eq_some_iff.1 h).1).trans h⟩
        have k0 := a2.cell (j := 0) (by omega)
        have k1 := a2.cell (j := 1) (by omega)
        have k2 := a2.cell (j := 2) (by omega)
        have k3 := a2.cell (j := 3) (by omega)
        have z0 := a2.frozen 0
        have z1 := a2.frozen 1
        have z2 := a2.frozen 2
        have z3 := a2.frozen 3
        have i0 := a0.cell (j := 0) (by omega)
        have i1 := a0.cell (j := 1) (by omega)
        have i2 := a0.cell (j := 2) (by omega)
        have i3 := a0.cell (j := 3) (by omega)
        have y0 := a0.frozen 0
        have y1 := a0.frozen 1
        have y2 := a0.frozen 2
        have y3 := a0.frozen 3
        have x1 := a1.cell
        have v1 := a1.frozen
        have HA := Lib.hid (And.intro a0 (And.intro a1 BB))
        have HK := Lib.hid KF
        clear a0 a1 a2 BB b0 b1 b2 b3 hB hb1 HW HSC KF c0 c1 c2 c3 d1 f0 f1 f2 f3 g1
        gi_wp2
        obtain ⟨a0, a1, BB⟩ := HA.out
        have KF := HK.out
        refine ⟨KF.trans ((((((((((KeepsOthers.setCell _ _ _).trans (KeepsOthers.setCell _ _ _)).trans (KeepsOthers.setCell _ _ _)).trans (KeepsOthers.setCell _ _ _)).trans (KeepsOthers.setCell _ _ _)).trans (KeepsOthers.setCell _ _ _)).trans (KeepsOthers.setCell _ _ _)).trans (KeepsOthers.setCell _ _ _)).trans (KeepsOthers.setCell _ _ _)).from _), rfl, HBAD, ?_, ?_, ?_⟩
        · exact Arr4.other (Arr4.store0 (Arr4.other (Arr4.other (Arr4.other (Arr4.other a0 (by simp; omega) _) (by simp; omega) _) (by simp; omega) _) (by simp; omega) _)) (by simp) _
        · exact Boxed.refix (Boxed.away (Boxed.away (Boxed.away (Boxed.away (Boxed.away (Boxed.away (Boxed.away (Boxed.away a1 (by simp) _) (by simp) _) (by simp) _) (by simp) _) (by simp) _) (by simp) _) (by simp) _) (by simp) _)
        · exact ((((((((BB.setCell (p := ⟨w.heap.size + 1 + 1, 0, none⟩) (by simp; omega) _).setCell (p := ⟨w.heap.size + 1 + 1, 1, none⟩) (by simp; omega) _).setCell (p := ⟨w.heap.size + 1 + 1, 2, none⟩) (by simp; omega) _).setCell (p := ⟨w.heap.size + 1 + 1, 3, none⟩) (by simp; omega) _).setCell (p := ⟨w.heap.size, 0, none⟩) (by simp) _).setCell (p := ⟨w.heap.size, 1, none⟩) (by simp) _).setCell (p := ⟨w.heap.size, 2, none⟩) (by simp) _).setCell (p := ⟨w.heap.size, 3, none⟩) (by simp) _).setCell (p := ⟨w.heap.size + 1, 0, none⟩) (by simp) _
  case done =>
    rintro D W hD ⟨m, hm, hm256, ⟨b0, b1, b2, b3⟩, hB⟩ hK
    have hfull : s.data.toList.take (7 * ((s.size + 6) / 7)) = s.data.toList := List.take_of_length_le (by simp; omega)
    rw [hfull] at hm
    have HV := Lib.hid (numV_good octK _ m hm hm256)
    have c0 := b2.cell (j := 0) (by omega)
    have c1 := b2.cell (j := 1) (by omega)
    have c2 := b2.cell (j := 2) (by omega)
    have c3 := b2.cell (j := 3) (by omega)
    have i0 := b0.cell (j := 0) (by omega)
    have i1 := b0.cell (j := 1) (by omega)
    have i2 := b0.cell (j := 2) (by omega)
    have i3 := b0.cell (j := 3) (by omega)
    have f0 := b0.frozen 0
    have f1 := b0.frozen 1
    have f2 := b0.frozen 2
    have f3 := b0.frozen 3
    have d1 := b1.cell
    have g1 := b1.frozen
    have HA := Lib.hid (And.intro b0 (And.intro b1 hB))
    have HK := Lib.hid hK
    clear b0 b1 b2 b3 hB hK hfull hm hm256 hJ0 bP
    gi_wp2
    obtain ⟨b0, b1, hB⟩ := HA.out
    have hK' := (((((KeepsOthers.setCell W ⟨w.heap.size, 0, none⟩ (.int .u64 (lim m 0))).trans (KeepsOthers.setCell _ ⟨w.heap.size, 1, none⟩ (.int .u64 (lim m 1)))).trans (KeepsOthers.setCell _ ⟨w.heap.size, 2, none⟩ (.int .u64 (lim m 2)))).trans (KeepsOthers.setCell _ ⟨w.heap.size, 3, none⟩ (.int .u64 (lim m 3)))).trans (KeepsOthers.setCell _ ⟨w.heap.size + 1, 0, none⟩ (.bool true))).same D _ HK.out rfl
    have a0 := Arr4.other (b0.store (lim m)) (p := ⟨w.heap.size + 1, 0, none⟩) (by simp) (.bool true)
    have a1 := Boxed.set (.bool true) (Boxed.away (Boxed.away (Boxed.away (Boxed.away b1 (p := ⟨w.heap.size, 0, none⟩) (by simp) (.int .u64 (lim m 0))) (p := ⟨w.heap.size, 1, none⟩) (by simp) (.int .u64 (lim m 1))) (p := ⟨w.heap.size, 2, none⟩) (by simp) (.int .u64 (lim m 2))) (p := ⟨w.heap.size, 3, none⟩) (by simp) (.int .u64 (lim m 3)))
    have a0' := Arr4.kept a0 (grownBy_putObj' _ D (.deferred none)) (fun e => by cases e; have := (show _ = _ from a0).symm.trans hK'; cases this)
    have a1' := Boxed.kept a1 (grownBy_putObj' _ D (.deferred none)) (fun e => by cases e; have := (show _ = _ from a1).symm.trans hK'; cases this)
    have e0 := a0'.cell (j := 0) (by omega)
    have e1 := a0'.cell (j := 1) (by omega)
    have e2 := a0'.cell (j := 2) (by omega)
    have e3 := a0'.cell (j := 3) (by omega)
    have e4 := a1'.cell
    refine ⟨by simp, .inl ⟨_, _, rfl, run_takeDeferred hK', ?_⟩⟩
    exact ⟨_, (by simp [results, Tryd.f51, go_sem, e0, e1, e2, e3, e4]; rfl), by rw [HV.out],
      ((((((hB.setCell (p := ⟨w.heap.size, 0, none⟩) (by simp) _).setCell (p := ⟨w.heap.size, 1, none⟩) (by simp) _).setCell (p := ⟨w.heap.size, 2, none⟩) (by simp) _).setCell (p := ⟨w.heap.size, 3, none⟩) (by simp) _).setCell (p := ⟨w.heap.size + 1, 0, none⟩) (by simp) _)).trans (belowK_b (w := w) (Nat.le_refl _) _ D _ _ (by omega) hK' rfl rfl)⟩
  case stop =>
    rintro D c k W hD hkN ⟨rfl, hbad, ⟨b0, b1, hB⟩⟩ hK
    have HA := Lib.hid (And.intro b0 (And.intro b1 hB))
    have HK := Lib.hid hK
    clear b0 b1 hB hK hJ0 bP
    gi_wp2
    obtain ⟨a0, a1, hB⟩ := HA.out
    have hK' := HK.out
    have a0' := Arr4.kept a0 (grownBy_putObj' _ D (.deferred none)) (fun e => by cases e; have := (show _ = _ from a0).symm.trans hK'; cases this)
    have a1' := Boxed.kept a1 (grownBy_putObj' _ D (.deferred none)) (fun e => by cases e; have := (show _ = _ from a1).symm.trans hK'; cases this)
    have e0 := a0'.cell (j := 0) (by omega)
    have e1 := a0'.cell (j := 1) (by omega)
    have e2 := a0'.cell (j := 2) (by omega)
    have e3 := a0'.cell (j := 3) (by omega)
    have e4 := a1'.cell
    refine ⟨by simp, .inl ⟨_, _, rfl, run_takeDeferred hK', ?_⟩⟩
    exact ⟨_, (by simp [results, Tryd.f51, go_sem, e0, e1, e2, e3, e4]; rfl), by rw [hbad.out],
      hB.trans (belowK_b (w := w) (Nat.le_refl _) _ D _ _ (by omega) hK' rfl rfl)⟩

set_option maxRecDepth 100000 in
set_option maxHeartbeats 4000000 in
theorem number_dec (s : ByteArray) (hs : s.size ≤ 140737488355328) : Ret Tryd.prog 48 #[.string s] (numV decK s.data.toList) := by
  intro w
  have h1 : 1 ≤ 4 := by omega
  refine (callsIn_wide (n := 4)).1 ?_
  refine callsIn_of_wp_marks Tryd.func48 rfl trivial ?_ rfl
  simp only [Tryd.ntmps48, List.size_toArray, List.length_cons, List.length_nil, Nat.reduceAdd, Nat.reduceSub, Array.replicate_succ, Array.replicate_zero, List.push_toArray, List.append_toArray, List.nil_append, List.cons_append]
  gi_wp2_with (gi_at_call 60; refine (callsIn_free free_wide (pieces_any _ _)).mono ?_; rintro e w' ⟨rfl, rfl⟩)
  obtain ⟨W0, hW0⟩ : ∃ W0, ((((w.alloc (.cells #[.int .u64 0, .int .u64 0, .int .u64 0, .int .u64 0] 24)).alloc (.cells #[.bool false] 4)).alloc (.cells #[.int .u64 0, .int .u64 0, .int .u64 0, .int .u64 0] 24)).alloc (.cells #[.string s] 9)) = W0 := ⟨_, rfl⟩
  have hsz : W0.heap.size = w.heap.size + 4 := by rw [← hW0]; simp
  have hJ0 : NumSt w decK s 0 W0 := by
    rw [← hW0]
    refine ⟨0, rfl, by unfold W256; decide, ⟨?_, ?_, ?_, ?_⟩, ((((Below.refl _ w).alloc (Nat.le_refl _) _).alloc (by simp) _).alloc (by simp; omega) _).alloc (by simp; omega) _⟩
    · have h := World.alloc_heap_new w (.cells #[.int .u64 0, .int .u64 0, .int .u64 0, .int .u64 0] 24)
      exact (((Arr4.alloc (m := fun _ => 0) h _).alloc _).alloc _)
    · have h := Boxed.new (w.alloc (.cells #[.int .u64 0, .int .u64 0, .int .u64 0, .int .u64 0] 24)) 4 (.bool false)
      rw [World.size_alloc] at h
      exact (h.alloc _).alloc _
    · have h := World.alloc_heap_new ((w.alloc (.cells #[.int .u64 0, .int .u64 0, .int .u64 0, .int .u64 0] 24)).alloc (.cells #[.bool false] 4)) (.cells #[.int .u64 0, .int .u64 0, .int .u64 0, .int .u64 0] 24)
      rw [World.size_alloc, World.size_alloc] at h
      exact Arr4.alloc (m := lim 0) h _
    · have h := Boxed.new (((w.alloc (.cells #[.int .u64 0, .int .u64 0, .int .u64 0, .int .u64 0] 24)).alloc (.cells #[.bool false] 4)).alloc (.cells #[.int .u64 0, .int .u64 0, .int .u64 0, .int .u64 0] 24)) 9 (.string s)
      simpa using h
  rw [hW0]
  clear hW0
  have hcP := hJ0
  obtain ⟨_, _, _, ⟨_, _, _, bP⟩, _⟩ := hcP
  refine wpIn_rangeFunc_N1 rfl h1 (gf := 70) (lb := #[.pointer (some ⟨w.heap.size + 1 + 1 + 1, 0, none⟩)]) rfl trivial (enters_of Tryd.func70 (by kernel_rfl) rfl)
    (pieces_seq _ (by omega) _ s hs W0 (by omega) bP.cell) KeepsAt.trans (KeepsAt.refl _) (KeepsAt.b (by simp; omega)) (fun _ _ => rfl)
    (fun k W => NumSt w decK s k W)
    (fun c k W => c = .ret ∧ Hid (numV decK s.data.toList = .tuple #[.agg #[.int .u64 0, .int .u64 0, .int .u64 0, .int .u64 0], .bool false]) ∧ NumBad w W)
    (NumSt.own w decK s _ (by omega))
    (fun c => OwnFrom.and (ownFrom_pure _ _) (OwnFrom.and (ownFrom_pure _ _) (NumBad.own w _ (by omega))))
    hJ0
    (fun k => { tmps := #[.string s, undef, .pointer (some ⟨w.heap.size, 0, none⟩), .pointer (some ⟨w.heap.size + 1, 0, none⟩), .pointer (some ⟨w.heap.size + 1 + 1, 0, none⟩), .string (piece s k), undef, undef, undef, undef, .agg #[.int .u64 0, .int .u64 0, .int .u64 0, .int .u64 0], .string s, .func (.func 70) #[] #[.pointer (some ⟨w.heap.size + 1 + 1 + 1, 0, none⟩)], .string (piece s k), undef, undef, undef, undef, undef, undef, undef, undef, undef, undef, undef, undef, undef, undef, undef, undef, undef, undef, undef], defers := [] }) ?assign ?body ?done ?stop
  case assign =>
    intro l k W K _ hK
    gi_wp2
    exact hK
  case body =>
    rintro l k W _ hkN ⟨m, hm, hm256, ⟨b0, b1, b2, b3⟩, hB⟩
    have hsm := small_dec (piece s k) (piece_size s k)
    have c0 := b0.cell (j := 0) (by omega)
    have c1 := b0.cell (j := 1) (by omega)
    have c2 := b0.cell (j := 2) (by omega)
    have c3 := b0.cell (j := 3) (by omega)
    have f0 := b0.frozen 0
    have f1 := b0.frozen 1
    have f2 := b0.frozen 2
    have f3 := b0.frozen 3
    have d1 := b1.cell
    have g1 := b1.frozen
    have hl1 := b1.lt
    have hl2 := b2.lt
    have hl3 := b3.lt
    cases hd : numFrom decK 0 (piece s k).data.toList with
    | none =>
      have hv : smallV decK (piece s k).data.toList = .tuple #[.int .u64 0, .int .u64 0, .bool false] := by unfold smallV; rw [hd]
      rw [hv] at hsm
      have HS := Lib.hid hsm
      have HBAD : Hid (numV decK s.data.toList = .tuple #[.agg #[.int .u64 0, .int .u64 0, .int .u64 0, .int .u64 0], .bool false]) := numV_bad _ _ _ (numFrom_piece_none decK s k m hm hd)
      have HW := Lib.hid (show NumBad w W from ⟨b0, b1, hB⟩)
      clear hv hd hsm hm hm256 b0 b1 b2 b3 hB hJ0 bP
      gi_wp2_with (gi_at_call 61; refine (callsIn_free (free_round l) (HS.out _)).mono ?_; rintro e w' ⟨rfl, rfl⟩)
      obtain ⟨b0, b1, hB⟩ := HW.out
      exact ⟨((((((KeepsOthers.setCell _ _ _).trans (KeepsOthers.setCell _ _ _)).trans (KeepsOthers.setCell _ _ _)).trans (KeepsOthers.setCell _ _ _)).trans (KeepsOthers.setCell _ _ _))).from _, rfl, HBAD,
        Arr4.other b0.store0 (by simp) _, Boxed.refix (Boxed.away (Boxed.away (Boxed.away (Boxed.away b1 (by simp) _) (by simp) _) (by simp) _) (by simp) _), ((((hB.setCell (p := ⟨w.heap.size, 0, none⟩) (by simp) _).setCell (p := ⟨w.heap.size, 1, none⟩) (by simp) _).setCell (p := ⟨w.heap.size, 2, none⟩) (by simp) _).setCell (p := ⟨w.heap.size, 3, none⟩) (by simp) _).setCell (p := ⟨w.heap.size + 1, 0, none⟩) (by simp) _⟩
    | some n =>
      have hv : smallV decK (piece s k).data.toList = .tuple #[.int .u64 (n : Int), .int .u64 ((decK.base ^ (piece s k).data.toList.length : Nat) : Int), .bool true] := by unfold smallV; rw [hd]
      rw [hv] at hsm
      have hn := small_lt decK s k n hd
      have hu := unit_lt decK s k
      have hnext := numFrom_piece decK s k m n hm hd
      generalize decK.base ^ (piece s k).data.toList.length = U at *
      obtain ⟨hp1, hp2⟩ := scale_parts m U n hm256 hu hn
      have hsc := fun W' h1 h2 => scale_any (lim m) (U : Int) (n : Int) (lim_u64 m) ⟨by omega, by omega⟩ ⟨by omega, by omega⟩ (w.heap.size + 1 + 1) W' h1 h2
      rw [hp1 0 (by omega), hp1 1 (by omega), hp1 2 (by omega), hp1 3 (by omega), hp2] at hsc
      have HS := Lib.hid hsm
      have HSC := Lib.hid (hsc W b2.lt (fun j hj => b2.cell hj))
      have HW := Lib.hid (show Arr4 W w.heap.size 24 (fun _ => 0) ∧ Boxed W (w.heap.size + 1) 4 (.bool false) ∧ Arr4 W (w.heap.size + 1 + 1) 24 (lim m) ∧ Boxed W (w.heap.size + 1 + 1 + 1) 9 (.string s) ∧ Below w.heap.size w W from ⟨b0, b1, b2, b3, hB⟩)
      by_cases hgr : m * U + n < 115792089237316195423570985008687907853269984665640564039457584007913129639936
      · have h0 : (((m * U + n) / 115792089237316195423570985008687907853269984665640564039457584007913129639936 : Nat) : Int) = 0 := by rw [Nat.div_eq_of_lt hgr]; rfl
        rw [h0] at HSC
        rw [wmod_of hgr] at HSC
        have HN := Lib.hid hnext
        have HG : Hid (W256 (m * U + n)) := hgr
        clear hv hd hsm hm hm256 b0 b1 b2 b3 hB hJ0 bP hsc hp1 hp2 hnext hgr h0 hn hu
        generalize m * U + n = m' at *
        gi_wp2_with fail
        refine (callsIn_free (free_round l) (HS.out _)).mono ?_
        rintro e w' ⟨rfl, rfl⟩
        clear HS
        gi_wp2_with fail
        refine (callsIn_free (free_round l) HSC.out).mono ?_
        rintro e w1 ⟨rfl, hb1⟩
        obtain ⟨b0, b1, b2, b3, hB⟩ := HW.out
        have a0 := Arr4.below b0 hb1 b0.lt
        have a1 := Boxed.below b1 hb1 b1.lt
        have a2 := Arr4.below b2 hb1 b2.lt
        have a3 := Boxed.below b3 hb1 b3.lt
        have BB := hB.trans (hb1.mono hB.size)
        have KF : KeepsFrom W0.heap.size W w1 := ⟨hb1.size, fun k o _ h _ => (hb1.block k (Array.getElem?_eq_some_iff.1 h).1).trans h⟩
        have KA : KeepsAt [w.heap.size + 1 + 1 + 1] W w1 := (KeepsAt.refl _ W).below hb1 (fun b hb => by simp at hb; omega)
        have k0 := a2.cell (j := 0) (by omega)
        have k1 := a2.cell (j := 1) (by omega)
        have k2 := a2.cell (j := 2) (by omega)
        have k3 := a2.cell (j := 3) (by omega)
        have z0 := a2.frozen 0
        have z1 := a2.frozen 1
        have z2 := a2.frozen 2
        have z3 := a2.frozen 3
        have HA := Lib.hid (And.intro a0 (And.intro a1 (And.intro a2 (And.intro a3 BB))))
        have HK := Lib.hid (And.intro KF KA)
        clear a0 a1 a2 a3 BB b0 b1 b2 b3 hB hb1 HW HSC KF KA c0 c1 c2 c3 d1 f0 f1 f2 f3 g1
        gi_wp2
        obtain ⟨a0, a1, a2, a3, BB⟩ := HA.out
        obtain ⟨KF, KA⟩ := HK.out
        refine ⟨KF.trans (((((KeepsOthers.setCell _ _ _).trans (KeepsOthers.setCell _ _ _)).trans (KeepsOthers.setCell _ _ _)).trans (KeepsOthers.setCell _ _ _)).from _), (((KA.setCell (by simp) _).setCell (by simp) _).setCell (by simp) _).setCell (by simp) _, m', HN.out, HG.out, ⟨?_, ?_, ?_, ?_⟩, ?_⟩
        · exact Arr4.other (Arr4.other (Arr4.other (Arr4.other a0 (by simp; omega) _) (by simp; omega) _) (by simp; omega) _) (by simp; omega) _
        · exact Boxed.away (Boxed.away (Boxed.away (Boxed.away a1 (by simp) _) (by simp) _) (by simp) _) (by simp) _
        · exact Arr4.store a2 (lim m')
        · exact Boxed.away (Boxed.away (Boxed.away (Boxed.away a3 (by simp) _) (by simp) _) (by simp) _) (by simp) _
        · exact (((BB.setCell (p := ⟨w.heap.size + 1 + 1, 0, none⟩) (by simp; omega) _).setCell (p := ⟨w.heap.size + 1 + 1, 1, none⟩) (by simp; omega) _).setCell (p := ⟨w.heap.size + 1 + 1, 2, none⟩) (by simp; omega) _).setCell (p := ⟨w.heap.size + 1 + 1, 3, none⟩) (by simp; omega) _
      · have HBAD : Hid (numV decK s.data.toList = .tuple #[.agg #[.int .u64 0, .int .u64 0, .int .u64 0, .int .u64 0], .bool false]) := numV_great _ _ _ _ hnext hgr
        have h0 : (((((m * U + n) / 115792089237316195423570985008687907853269984665640564039457584007913129639936 : Nat) : Int) != 0) = true) := by
          have : 1 ≤ (m * U + n) / 115792089237316195423570985008687907853269984665640564039457584007913129639936 := (Nat.le_div_iff_mul_le (by decide)).2 (by omega)
          simp; omega
        generalize (((m * U + n) / 115792089237316195423570985008687907853269984665640564039457584007913129639936 : Nat) : Int) = q at *
        clear hv hd hsm hm hm256 b0 b1 b2 b3 hB hJ0 bP hsc hp1 hp2 hnext hgr hn hu
        generalize wmod (m * U + n) = m' at *
        gi_wp2_with fail
        refine (callsIn_free (free_round l) (HS.out _)).mono ?_
        rintro e w' ⟨rfl, rfl⟩
        clear HS
        gi_wp2_with fail
        refine (callsIn_free (free_round l) HSC.out).mono ?_
        rintro e w1 ⟨rfl, hb1⟩
        obtain ⟨b0, b1, b2, b3, hB⟩ := HW.out
        have a0 := Arr4.below b0 hb1 b0.lt
        have a1 := Boxed.below b1 hb1 b1.lt
        have a2 := Arr4.below b2 hb1 b2.lt
        have BB := hB.trans (hb1.mono hB.size)
        have KF : KeepsFrom W0.heap.size W w1 := ⟨hb1.size, fun k o _ h _ => (hb1.block k (Array.getElem?_eq_some_iff.1 h).1).trans h⟩
        have k0 := a2.cell (j := 0) (by omega)
        have k1 := a2.cell (j := 1) (by omega)
        have k2 := a2.cell (j := 2) (by omega)
        have k3 := a2.cell (j := 3) (by omega)
        have z0 := a2.frozen 0
        have z1 := a2.frozen 1
        have z2 := a2.frozen 2
        have z3 := a2.frozen 3
        have i0 := a0.cell (j := 0) (by omega)
        have i1 := a0.cell (j := 1) (by omega)
        have i2 := a0.cell (j := 2) (by omega)
        have i3 := a0.cell (j := 3) (by omega)
        have y0 := a0.frozen 0
        have y1 := a0.frozen 1
        have y2 := a0.frozen 2
        have y3 := a0.frozen 3
        have x1 := a1.cell
        have v1 := a1.frozen
        have HA := Lib.hid (And.intro a0 (And.intro a1 BB))
        have HK := Lib.hid KF
        clear a0 a1 a2 BB b0 b1 b2 b3 hB hb1 HW HSC KF c0 c1 c2 c3 d1 f0 f1 f2 f3 g1
        gi_wp2
        obtain ⟨a0, a1, BB⟩ := HA.out
        have KF := HK.out
        refine ⟨KF.trans ((((((((((KeepsOthers.setCell _ _ _).trans (KeepsOthers.setCell _ _ _)).trans (KeepsOthers.setCell _ _ _)).trans (KeepsOthers.setCell _ _ _)).trans (KeepsOthers.setCell _ _ _)).trans (KeepsOthers.setCell _ _ _)).trans (KeepsOthers.setCell _ _ _)).trans (KeepsOthers.setCell _ _ _)).trans (KeepsOthers.setCell _ _ _)).from _), rfl, HBAD, ?_, ?_, ?_⟩
        · exact Arr4.other (Arr4.store0 (Arr4.other (Arr4.other (Arr4.other (Arr4.other a0 (by simp; omega) _) (by simp; omega) _) (by simp; omega) _) (by simp; omega) _)) (by simp) _
        · exact Boxed.refix (Boxed.away (Boxed.away (Boxed.away (Boxed.away (Boxed.away (Boxed.away (Boxed.away (Boxed.away a1 (by simp) _) (by simp) _) (by simp) _) (by simp) _) (by simp) _) (by simp) _) (by simp) _) (by simp) _)
        · exact ((((((((BB.setCell (p := ⟨w.heap.size + 1 + 1, 0, none⟩) (by simp; omega) _).setCell (p := ⟨w.heap.size + 1 + 1, 1, none⟩) (by simp; omega) _).setCell (p := ⟨w.heap.size + 1 + 1, 2, none⟩) (by simp; omega) _).setCell (p := ⟨w.heap.size + 1 + 1, 3, none⟩) (by simp; omega) _).setCell (p := ⟨w.heap.size, 0, none⟩) (by simp) _).setCell (p := ⟨w.heap.size, 1, none⟩) (by simp) _).setCell (p := ⟨w.heap.size, 2, none⟩) (by simp) _).setCell (p := ⟨w.heap.size, 3, none⟩) (by simp) _).setCell (p := ⟨w.heap.size + 1, 0, none⟩) (by simp) _
  case done =>
    rintro D W hD ⟨m, hm, hm256, ⟨b0, b1, b2, b3⟩, hB⟩ hK
    have hfull : s.data.toList.take (7 * ((s.size + 6) / 7)) = s.data.toList := List.take_of_length_le (by simp; omega)
    rw [hfull] at hm
    have HV := Lib.hid (numV_good decK _ m hm hm256)
    have c0 := b2.cell (j := 0) (by omega)
    have c1 := b2.cell (j := 1) (by omega)
    have c2 := b2.cell (j := 2) (by omega)
    have c3 := b2.cell (j := 3) (by omega)
    have i0 := b0.cell (j := 0) (by omega)
    have i1 := b0.cell (j := 1) (by omega)
    have i2 := b0.cell (j := 2) (by omega)
    have i3 := b0.cell (j := 3) (by omega)
    have f0 := b0.frozen 0
    have f1 := b0.frozen 1
    have f2 := b0.frozen 2
    have f3 := b0.frozen 3
    have d1 := b1.cell
    have g1 := b1.frozen
    have HA := Lib.hid (And.intro b0 (And.intro b1 hB))
    have HK := Lib.hid hK
    clear b0 b1 b2 b3 hB hK hfull hm hm256 hJ0 bP
    gi_wp2
    obtain ⟨b0, b1, hB⟩ := HA.out
    have hK' := (((((KeepsOthers.setCell W ⟨w.heap.size, 0, none⟩ (.int .u64 (lim m 0))).trans (KeepsOthers.setCell _ ⟨w.heap.size, 1, none⟩ (.int .u64 (lim m 1)))).trans (KeepsOthers.setCell _ ⟨w.heap.size, 2, none⟩ (.int .u64 (lim m 2)))).trans (KeepsOthers.setCell _ ⟨w.heap.size, 3, none⟩ (.int .u64 (lim m 3)))).trans (KeepsOthers.setCell _ ⟨w.heap.size + 1, 0, none⟩ (.bool true))).same D _ HK.out rfl
    have a0 := Arr4.other (b0.store (lim m)) (p := ⟨w.heap.size + 1, 0, none⟩) (by simp) (.bool true)
    have a1 := Boxed.set (.bool true) (Boxed.away (Boxed.away (Boxed.away (Boxed.away b1 (p := ⟨w.heap.size, 0, none⟩) (by simp) (.int .u64 (lim m 0))) (p := ⟨w.heap.size, 1, none⟩) (by simp) (.int .u64 (lim m 1))) (p := ⟨w.heap.size, 2, none⟩) (by simp) (.int .u64 (lim m 2))) (p := ⟨w.heap.size, 3, none⟩) (by simp) (.int .u64 (lim m 3)))
    have a0' := Arr4.kept a0 (grownBy_putObj' _ D (.deferred none)) (fun e => by cases e; have := (show _ = _ from a0).symm.trans hK'; cases this)
    have a1' := Boxed.kept a1 (grownBy_putObj' _ D (.deferred none)) (fun e => by cases e; have := (show _ = _ from a1).symm.trans hK'; cases this)
    have e0 := a0'.cell (j := 0) (by omega)
    have e1 := a0'.cell (j := 1) (by omega)
    have e2 := a0'.cell (j := 2) (by omega)
    have e3 := a0'.cell (j := 3) (by omega)
    have e4 := a1'.cell
    refine ⟨by simp, .inl ⟨_, _, rfl, run_takeDeferred hK', ?_⟩⟩
    exact ⟨_, (by simp [results, Tryd.f48, go_sem, e0, e1, e2, e3, e4]; rfl), by rw [HV.out],
      ((((((hB.setCell (p := ⟨w.heap.size, 0, none⟩) (by simp) _).setCell (p := ⟨w.heap.size, 1, none⟩) (by simp) _).setCell (p := ⟨w.heap.size, 2, none⟩) (by simp) _).setCell (p := ⟨w.heap.size, 3, none⟩) (by simp) _).setCell (p := ⟨w.heap.size + 1, 0, none⟩) (by simp) _)).trans (belowK_b (w := w) (Nat.le_refl _) _ D _ _ (by omega) hK' rfl rfl)⟩
  case stop =>
    rintro D c k W hD hkN ⟨rfl, hbad, ⟨b0, b1, hB⟩⟩ hK
    have HA := Lib.hid (And.intro b0 (And.intro b1 hB))
    have HK := Lib.hid hK
    clear b0 b1 hB hK hJ0 bP
    gi_wp2
    obtain ⟨a0, a1, hB⟩ := HA.out
    have hK' := HK.out
    have a0' := Arr4.kept a0 (grownBy_putObj' _ D (.deferred none)) (fun e => by cases e; have := (show _ = _ from a0).symm.trans hK'; cases this)
    have a1' := Boxed.kept a1 (grownBy_putObj' _ D (.deferred none)) (fun e => by cases e; have := (show _ = _ from a1).symm.trans hK'; cases this)
    have e0 := a0'.cell (j := 0) (by omega)
    have e1 := a0'.cell (j := 1) (by omega)
    have e2 := a0'.cell (j := 2) (by omega)
    have e3 := a0'.cell (j := 3) (by omega)
    have e4 := a1'.cell
    refine ⟨by simp, .inl ⟨_, _, rfl, run_takeDeferred hK', ?_⟩⟩
    exact ⟨_, (by simp [results, Tryd.f48, go_sem, e0, e1, e2, e3, e4]; rfl), by rw [hbad.out],
      hB.trans (belowK_b (w := w) (Nat.le_refl _) _ D _ _ (by omega) hK' rfl rfl)⟩

set_option maxRecDepth 100000 in
set_option maxHeartbeats 4000000 in
theorem number_hex (s : ByteArray) (hs : s.size ≤ 140737488355328) : Ret Tryd.prog 49 #[.string s] (numV hexK s.data.toList) := by
  intro w
  have h1 : 1 ≤ 4 := by omega
  refine (callsIn_wide (n := 4)).1 ?_
  refine callsIn_of_wp_marks Tryd.func49 rfl trivial ?_ rfl
  simp only [Tryd.ntmps49, List.size_toArray, List.length_cons, List.length_nil, Nat.reduceAdd, Nat.reduceSub, Array.replicate_succ, Array.replicate_zero, List.push_toArray, List.append_toArray, List.nil_append, List.cons_append]
  gi_wp2_with (gi_at_call 60; refine (callsIn_free free_wide (pieces_any _ _)).mono ?_; rintro e w' ⟨rfl, rfl⟩)
  obtain ⟨W0, hW0⟩ : ∃ W0, ((((w.alloc (.cells #[.int .u64 0, .int .u64 0, .int .u64 0, .int .u64 0] 24)).alloc (.cells #[.bool false] 4)).alloc (.cells #[.int .u64 0, .int .u64 0, .int .u64 0, .int .u64 0] 24)).alloc (.cells #[.string s] 9)) = W0 := ⟨_, rfl⟩
  have hsz : W0.heap.size = w.heap.size + 4 := by rw [← hW0]; simp
  have hJ0 : NumSt w hexK s 0 W0 := by
    rw [← hW0]
    refine ⟨0, rfl, by unfold W256; decide, ⟨?_, ?_, ?_, ?_⟩, ((((Below.refl _ w).alloc (Nat.le_refl _) _).alloc (by simp) _).alloc (by simp; omega) _).alloc (by simp; omega) _⟩
    · have h := World.alloc_heap_new w (.cells #[.int .u64 0, .int .u64 0, .int .u64 0, .int .u64 0] 24)
      exact (((Arr4.alloc (m := fun _ => 0) h _).alloc _).alloc _)
    · have h := Boxed.new (w.alloc (.cells #[.int .u64 0, .int .u64 0, .int .u64 0, .int .u64 0] 24)) 4 (.bool false)
      rw [World.size_alloc] at h
      exact (h.alloc _).alloc _
    · have h := World.alloc_heap_new ((w.alloc (.cells #[.int .u64 0, .int .u64 0, .int .u64 0, .int .u64 0] 24)).alloc (.cells #[.bool false] 4)) (.cells #[.int .u64 0, .int .u64 0, .int .u64 0, .int .u64 0] 24)
      rw [World.size_alloc, World.size_alloc] at h
      exact Arr4.alloc (m := lim 0) h _
    · have h := Boxed.new (((w.alloc (.cells #[.int .u64 0, .int .u64 0, .int .u64 0, .int .u64 0] 24)).alloc (.cells #[.bool false] 4)).alloc (.cells #[.int .u64 0, .int .u64 0, .int .u64 0, .int .u64 0] 24)) 9 (.string s)
      simpa using h
  rw [hW0]
  clear hW0
  have hcP := hJ0
  obtain ⟨_, _, _, ⟨_, _, _, bP⟩, _⟩ := hcP
  refine wpIn_rangeFunc_N1 rfl h1 (gf := 70) (lb := #[.pointer (some ⟨w.heap.size + 1 + 1 + 1, 0, none⟩)]) rfl trivial (enters_of Tryd.func70 (by kernel_rfl) rfl)
    (pieces_seq _ (by omega) _ s hs W0 (by omega) bP.cell) KeepsAt.trans (KeepsAt.refl _) (KeepsAt.b (by simp; omega)) (fun _ _ => rfl)
    (fun k W => NumSt w hexK s k W)
    (fun c k W => c = .ret ∧ Hid (numV hexK s.data.toList = .tuple #[.agg #[.int .u64 0, .int .u64 0, .int .u64 0, .int .u64 0], .bool false]) ∧ NumBad w W)
    (NumSt.own w hexK s _ (by omega))
    (fun c => OwnFrom.and (ownFrom_pure _ _) (OwnFrom.and (ownFrom_pure _ _) (NumBad.own w _ (by omega))))
    hJ0
    (fun k => { tmps := #[.string s, undef, .pointer (some ⟨w.heap.size, 0, none⟩), .pointer (some ⟨w.heap.size + 1, 0, none⟩), .pointer (some ⟨w.heap.size + 1 + 1, 0, none⟩), .string (piece s k), undef, undef, undef, undef, .agg #[.int .u64 0, .int .u64 0, .int .u64 0, .int .u64 0], .string s, .func (.func 70) #[] #[.pointer (some ⟨w.heap.size + 1 + 1 + 1, 0, none⟩)], .string (piece s k), undef, undef, undef, undef, undef, undef, undef, undef, undef, undef, undef, undef, undef, undef, undef, undef, undef, undef, undef], defers := [] }) ?assign ?body ?done ?stop
  case assign =>
    intro l k W K _ hK
    gi_wp2
    exact hK
  case body =>
    rintro l k W _ hkN ⟨m, hm, hm256, ⟨b0, b1, b2, b3⟩, hB⟩
    have hsm := small_hex (piece s k) (piece_size s k)
    have c0 := b0.cell (j := 0) (by omega)
    have c1 := b0.cell (j := 1) (by omega)
    have c2 := b0.cell (j := 2) (by omega)
    have c3 := b0.cell (j := 3) (by omega)
    have f0 := b0.frozen 0
    have f1 := b0.frozen 1
    have f2 := b0.frozen 2
    have f3 := b0.frozen 3
    have d1 := b1.cell
    have g1 := b1.frozen
    have hl1 := b1.lt
    have hl2 := b2.lt
    have hl3 := b3.lt
    cases hd : numFrom hexK 0 (piece s k).data.toList with
    | none =>
      have hv : smallV hexK (piece s k).data.toList = .tuple #[.int .u64 0, .int .u64 0, .bool false] := by unfold smallV; rw [hd]
      rw [hv] at hsm
      have HS := Lib.hid hsm
      have HBAD : Hid (numV hexK s.data.toList = .tuple #[.agg #[.int .u64 0, .int .u64 0, .int .u64 0, .int .u64 0], .bool false]) := numV_bad _ _ _ (numFrom_piece_none hexK s k m hm hd)
      have HW := Lib.hid (show NumBad w W from ⟨b0, b1, hB⟩)
      clear hv hd hsm hm hm256 b0 b1 b2 b3 hB hJ0 bP
      gi_wp2_with (gi_at_call 63; refine (callsIn_free (free_round l) (HS.out _)).mono ?_; rintro e w' ⟨rfl, rfl⟩)
      obtain ⟨b0, b1, hB⟩ := HW.out
      exact ⟨((((((KeepsOthers.setCell _ _ _).trans (KeepsOthers.setCell _ _ _)).trans (KeepsOthers.setCell _ _ _)).trans (KeepsOthers.setCell _ _ _)).trans (KeepsOthers.setCell _ _ _))).from _, rfl, HBAD,
        Arr4.other b0.store0 (by simp) _, Boxed.refix (Boxed.away (Boxed.away (Boxed.away (Boxed.away b1 (by simp) _) (by simp) _) (by simp) _) (by simp) _), ((((hB.setCell (p := ⟨w.heap.size, 0, none⟩) (by simp) _).setCell (p := ⟨w.heap.size, 1, none⟩) (by simp) _).setCell (p := ⟨w.heap.size, 2, none⟩) (by simp) _).setCell (p := ⟨w.heap.size, 3, none⟩) (by simp) _).setCell (p := ⟨w.heap.size + 1, 0, none⟩) (by simp) _⟩
    | some n =>
      have hv : smallV hexK (piece s k).data.toList = .tuple #[.int .u64 (n : Int), .int .u64 ((hexK.base ^ (piece s k).data.toList.length : Nat) : Int), .bool true] := by unfold smallV; rw [hd]
      rw [hv] at hsm
      have hn := small_lt hexK s k n hd
      have hu := unit_lt hexK s k
      have hnext := numFrom_piece hexK s k m n hm hd
      generalize hexK.base ^ (piece s k).data.toList.length = U at *
      obtain ⟨hp1, hp2⟩ := scale_parts m U n hm256 hu hn
      have hsc := fun W' h1 h2 => scale_any (lim m) (U : Int) (n : Int) (lim_u64 m) ⟨by omega, by omega⟩ ⟨by omega, by omega⟩ (w.heap.size + 1 + 1) W' h1 h2
      rw [hp1 0 (by omega), hp1 1 (by omega), hp1 2 (by omega), hp1 3 (by omega), hp2] at hsc
      have HS := Lib.hid hsm
      have HSC := Lib.hid (hsc W b2.lt (fun j hj => b2.cell hj))
      have HW := Lib.hid (show Arr4 W w.heap.size 24 (fun _ => 0) ∧ Boxed W (w.heap.size + 1) 4 (.bool false) ∧ Arr4 W (w.heap.size + 1 + 1) 24 (lim m) ∧ Boxed W (w.heap.size + 1 + 1 + 1) 9 (.string s) ∧ Below w.heap.size w W from ⟨b0, b1, b2, b3, hB⟩)
      by_cases hgr : m * U + n < 115792089237316195423570985008687907853269984665640564039457584007913129639936
      · have h0 : (((m * U + n) / 115792089237316195423570985008687907853269984665640564039457584007913129639936 : Nat) : Int) = 0 := by rw [Nat.div_eq_of_lt hgr]; rfl
        rw [h0] at HSC
        rw [wmod_of hgr] at HSC
        have HN := Lib.hid hnext
        have HG : Hid (W256 (m * U + n)) := hgr
        clear hv hd hsm hm hm256 b0 b1 b2 b3 hB hJ0 bP hsc hp1 hp2 hnext hgr h0 hn hu
        generalize m * U + n = m' at *
        gi_wp2_with fail
        refine (callsIn_free (free_round l) (HS.out _)).mono ?_
        rintro e w' ⟨rfl, rfl⟩
        clear HS
        gi_wp2_with fail
        refine (callsIn_free (free_round l) HSC.out).mono ?_
        rintro e w1 ⟨rfl, hb1⟩
        obtain ⟨b0, b1, b2, b3, hB⟩ := HW.out
        have a0 := Arr4.below b0 hb1 b0.lt
        have a1 := Boxed.below b1 hb1 b1.lt
        have a2 := Arr4.below b2 hb1 b2.lt
        have a3 := Boxed.below b3 hb1 b3.lt
        have BB := hB.trans (hb1.mono hB.size)
        have KF : KeepsFrom W0.heap.size W w1 := ⟨hb1.size, fun k o _ h _ => (hb1.block k (Array.getElem?_eq_some_iff.1 h).1).trans h⟩
        have KA : KeepsAt [w.heap.size + 1 + 1 + 1] W w1 := (KeepsAt.refl _ W).below hb1 (fun b hb => by simp at hb; omega)
        have k0 := a2.cell (j := 0) (by omega)
        have k1 := a2.cell (j := 1) (by omega)
        have k2 := a2.cell (j := 2) (by omega)
        have k3 := a2.cell (j := 3) (by omega)
        have z0 := a2.frozen 0
        have z1 := a2.frozen 1
        have z2 := a2.frozen 2
        have z3 := a2.frozen 3
        have HA := Lib.hid (And.intro a0 (And.intro a1 (And.intro a2 (And.intro a3 BB))))
        have HK := Lib.hid (And.intro KF KA)
        clear a0 a1 a2 a3 BB b0 b1 b2 b3 hB hb1 HW HSC KF KA c0 c1 c2 c3 d1 f0 f1 f2 f3 g1
        gi_wp2
        obtain ⟨a0, a1, a2, a3, BB⟩ := HA.out
        obtain ⟨KF, KA⟩ := HK.out
        refine ⟨KF.trans (((((KeepsOthers.setCell _ _ _).trans (KeepsOthers.setCell _ _ _)).trans (KeepsOthers.setCell _ _ _)).trans (KeepsOthers.setCell _ _ _)).from _), (((KA.setCell (by simp) _).setCell (by simp) _).setCell (by simp) _).setCell (by simp) _, m', HN.out, HG.out, ⟨?_, ?_, ?_, ?_⟩, ?_⟩
        · exact Arr4.other (Arr4.other (Arr4.other (Arr4.other a0 (by simp; omega) _) (by simp; omega) _) (by simp; omega) _) (by simp; omega) _
        · exact Boxed.away (Boxed.away (Boxed.away (Boxed.away a1 (by simp) _) (by simp) _) (by simp) _) (by simp) _
        · exact Arr4.store a2 (lim m')
        · exact Boxed.away (Boxed.away (Boxed.away (Boxed.away a3 (by simp) _) (by simp) _) (by simp) _) (by simp) _
        · exact (((BB.setCell (p := ⟨w.heap.size + 1 + 1, 0, none⟩) (by simp; omega) _).setCell (p := ⟨w.heap.size + 1 + 1, 1, none⟩) (by simp; omega) _).setCell (p := ⟨w.heap.size + 1 + 1, 2, none⟩) (by simp; omega) _).setCell (p := ⟨w.heap.size + 1 + 1, 3, none⟩) (by simp; omega) _
      · have HBAD : Hid (numV hexK s.data.toList = .tuple #[.agg #[.int .u64 0, .int .u64 0, .int .u64 0, .int .u64 0], .bool false]) := numV_great _ _ _ _ hnext hgr
        have h0 : (((((m * U + n) / 115792089237316195423570985008687907853269984665640564039457584007913129639936 : Nat) : Int) != 0) = true) := by
          have : 1 ≤ (m * U + n) / 115792089237316195423570985008687907853269984665640564039457584007913129639936 := (Nat.le_div_iff_mul_le (by decide)).2 (by omega)
          simp; omega
        generalize (((m * U + n) / 115792089237316195423570985008687907853269984665640564039457584007913129639936 : Nat) : Int) = q at *
        clear hv hd hsm hm hm256 b0 b1 b2 b3 hB hJ0 bP hsc hp1 hp2 hnext hgr hn hu
        generalize wmod (m * U + n) = m' at *
        gi_wp2_with fail
        refine (callsIn_free (free_round l) (HS.out _)).mono ?_
        rintro e w' ⟨rfl, rfl⟩
        clear HS
        gi_wp2_with fail
        refine (callsIn_free (free_round l) HSC.out).mono ?_
        rintro e w1 ⟨rfl, hb1⟩
        obtain ⟨b0, b1, b2, b3, hB⟩ := HW.out
        have a0 := Arr4.below b0 hb1 b0.lt
        have a1 := Boxed.below b1 hb1 b1.lt
        have a2 := Arr4.below b2 hb1 b2.lt
        have BB := hB.trans (hb1.mono hB.size)
        have KF : KeepsFrom W0.heap.size W w1 := ⟨hb1.size, fun k o _ h _ => (hb1.block k (Array.getElem?_eq_some_iff.1 h).1).trans h⟩
        have k0 := a2.cell (j := 0) (by omega)
        have k1 := a2.cell (j := 1) (by omega)
        have k2 := a2.cell (j := 2) (by omega)
        have k3 := a2.cell (j := 3) (by omega)
        have z0 := a2.frozen 0
        have z1 := a2.frozen 1
        have z2 := a2.frozen 2
        have z3 := a2.frozen 3
        have i0 := a0.cell (j := 0) (by omega)
        have i1 := a0.cell (j := 1) (by omega)
        have i2 := a0.cell (j := 2) (by omega)
        have i3 := a0.cell (j := 3) (by omega)
        have y0 := a0.frozen 0
        have y1 := a0.frozen 1
        have y2 := a0.frozen 2
        have y3 := a0.frozen 3
        have x1 := a1.cell
        have v1 := a1.frozen
        have HA := Lib.hid (And.intro a0 (And.intro a1 BB))
        have HK := Lib.hid KF
        clear a0 a1 a2 BB b0 b1 b2 b3 hB hb1 HW HSC KF c0 c1 c2 c3 d1 f0 f1 f2 f3 g1
        gi_wp2
        obtain ⟨a0, a1, BB⟩ := HA.out
        have KF := HK.out
        refine ⟨KF.trans ((((((((((KeepsOthers.setCell _ _ _).trans (KeepsOthers.setCell _ _ _)).trans (KeepsOthers.setCell _ _ _)).trans (KeepsOthers.setCell _ _ _)).trans (KeepsOthers.setCell _ _ _)).trans (KeepsOthers.setCell _ _ _)).trans (KeepsOthers.setCell _ _ _)).trans (KeepsOthers.setCell _ _ _)).trans (KeepsOthers.setCell _ _ _)).from _), rfl, HBAD, ?_, ?_, ?_⟩
        · exact Arr4.other (Arr4.store0 (Arr4.other (Arr4.other (Arr4.other (Arr4.other a0 (by simp; omega) _) (by simp; omega) _) (by simp; omega) _) (by simp; omega) _)) (by simp) _
        · exact Boxed.refix (Boxed.away (Boxed.away (Boxed.away (Boxed.away (Boxed.away (Boxed.away (Boxed.away (Boxed.away a1 (by simp) _) (by simp) _) (by simp) _) (by simp) _) (by simp) _) (by simp) _) (by simp) _) (by simp) _)
        · exact ((((((((BB.setCell (p := ⟨w.heap.size + 1 + 1, 0, none⟩) (by simp; omega) _).setCell (p := ⟨w.heap.size + 1 + 1, 1, none⟩) (by simp; omega) _).setCell (p := ⟨w.heap.size + 1 + 1, 2, none⟩) (by simp; omega) _).setCell (p := ⟨w.heap.size + 1 + 1, 3, none⟩) (by simp; omega) _).setCell (p := ⟨w.heap.size, 0, none⟩) (by simp) _).setCell (p := ⟨w.heap.size, 1, none⟩) (by simp) _).setCell (p := ⟨w.heap.size, 2, none⟩) (by simp) _).setCell (p := ⟨w.heap.size, 3, none⟩) (by simp) _).setCell (p := ⟨w.heap.size + 1, 0, none⟩) (by simp) _
  case done =>
    rintro D W hD ⟨m, hm, hm256, ⟨b0, b1, b2, b3⟩, hB⟩ hK
    have hfull : s.data.toList.take (7 * ((s.size + 6) / 7)) = s.data.toList := List.take_of_length_le (by simp; omega)
    rw [hfull] at hm
    have HV := Lib.hid (numV_good hexK _ m hm hm256)
    have c0 := b2.cell (j := 0) (by omega)
    have c1 := b2.cell (j := 1) (by omega)
    have c2 := b2.cell (j := 2) (by omega)
    have c3 := b2.cell (j := 3) (by omega)
    have i0 := b0.cell (j := 0) (by omega)
    have i1 := b0.cell (j := 1) (by omega)
    have i2 := b0.cell (j := 2) (by omega)
    have i3 := b0.cell (j := 3) (by omega)
    have f0 := b0.frozen 0
    have f1 := b0.frozen 1
    have f2 := b0.frozen 2
    have f3 := b0.frozen 3
    have d1 := b1.cell
    have g1 := b1.frozen
    have HA := Lib.hid (And.intro b0 (And.intro b1 hB))
    have HK := Lib.hid hK
    clear b0 b1 b2 b3 hB hK hfull hm hm256 hJ0 bP
    gi_wp2
    obtain ⟨b0, b1, hB⟩ := HA.out
    have hK' := (((((KeepsOthers.setCell W ⟨w.heap.size, 0, none⟩ (.int .u64 (lim m 0))).trans (KeepsOthers.setCell _ ⟨w.heap.size, 1, none⟩ (.int .u64 (lim m 1)))).trans (KeepsOthers.setCell _ ⟨w.heap.size, 2, none⟩ (.int .u64 (lim m 2)))).trans (KeepsOthers.setCell _ ⟨w.heap.size, 3, none⟩ (.int .u64 (lim m 3)))).trans (KeepsOthers.setCell _ ⟨w.heap.size + 1, 0, none⟩ (.bool true))).same D _ HK.out rfl
    have a0 := Arr4.other (b0.store (lim m)) (p := ⟨w.heap.size + 1, 0, none⟩) (by simp) (.bool true)
    have a1 := Boxed.set (.bool true) (Boxed.away (Boxed.away (Boxed.away (Boxed.away b1 (p := ⟨w.heap.size, 0, none⟩) (by simp) (.int .u64 (lim m 0))) (p := ⟨w.heap.size, 1, none⟩) (by simp) (.int .u64 (lim m 1))) (p := ⟨w.heap.size, 2, none⟩) (by simp) (.int .u64 (lim m 2))) (p := ⟨w.heap.size, 3, none⟩) (by simp) (.int .u64 (lim m 3)))
    have a0' := Arr4.kept a0 (grownBy_putObj' _ D (.deferred none)) (fun e => by cases e; have := (show _ = _ from a0).symm.trans hK'; cases this)
    have a1' := Boxed.kept a1 (grownBy_putObj' _ D (.deferred none)) (fun e => by cases e; have := (show _ = _ from a1).symm.trans hK'; cases this)
    have e0 := a0'.cell (j := 0) (by omega)
    have e1 := a0'.cell (j := 1) (by omega)
    have e2 := a0'.cell (j := 2) (by omega)
    have e3 := a0'.cell (j := 3) (by omega)
    have e4 := a1'.cell
    refine ⟨by simp, .inl ⟨_, _, rfl, run_takeDeferred hK', ?_⟩⟩
    exact ⟨_, (by simp [results, Tryd.f49, go_sem, e0, e1, e2, e3, e4]; rfl), by rw [HV.out],
      ((((((hB.setCell (p := ⟨w.heap.size, 0, none⟩) (by simp) _).setCell (p := ⟨w.heap.size, 1, none⟩) (by simp) _).setCell (p := ⟨w.heap.size, 2, none⟩) (by simp) _).setCell (p := ⟨w.heap.size, 3, none⟩) (by simp) _).setCell (p := ⟨w.heap.size + 1, 0, none⟩) (by simp) _)).trans (belowK_b (w := w) (Nat.le_refl _) _ D _ _ (by omega) hK' rfl rfl)⟩
  case stop =>
    rintro D c k W hD hkN ⟨rfl, hbad, ⟨b0, b1, hB⟩⟩ hK
    have HA := Lib.hid (And.intro b0 (And.intro b1 hB))
    have HK := Lib.hid hK
    clear b0 b1 hB hK hJ0 bP
    gi_wp2
    obtain ⟨a0, a1, hB⟩ := HA.out
    have hK' := HK.out
    have a0' := Arr4.kept a0 (grownBy_putObj' _ D (.deferred none)) (fun e => by cases e; have := (show _ = _ from a0).symm.trans hK'; cases this)
    have a1' := Boxed.kept a1 (grownBy_putObj' _ D (.deferred none)) (fun e => by cases e; have := (show _ = _ from a1).symm.trans hK'; cases this)
    have e0 := a0'.cell (j := 0) (by omega)
    have e1 := a0'.cell (j := 1) (by omega)
    have e2 := a0'.cell (j := 2) (by omega)
    have e3 := a0'.cell (j := 3) (by omega)
    have e4 := a1'.cell
    refine ⟨by simp, .inl ⟨_, _, rfl, run_takeDeferred hK', ?_⟩⟩
    exact ⟨_, (by simp [results, Tryd.f49, go_sem, e0, e1, e2, e3, e4]; rfl), by rw [hbad.out],
      hB.trans (belowK_b (w := w) (Nat.le_refl _) _ D _ _ (by omega) hK' rfl rfl)⟩
end Go.Proofs.YtgejdkiehcpinaaDoor
