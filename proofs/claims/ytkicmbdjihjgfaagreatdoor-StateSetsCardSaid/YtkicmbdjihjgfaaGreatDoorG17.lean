/- The laws' Slots. Conditions: the raw numbers lie in memory. -/
import Derived.Deep.CutRange
import Derived.Test.YtkicmbdjihjgfaaGreatDoorG10
import Derived.Test.YtkicmbdjihjgfaaGreatDoorG03
set_option maxRecDepth 100000
set_option maxHeartbeats 16000000
open List (setIfInBounds_toArray set_cons_succ set_cons_zero)
namespace Go.Proofs.YtkicmbdjihjgfaaGreatDoor
open Go Go.RowKit
attribute [local go_sem] Oper.semAt_some Grows wide_fn eq4
theorem four (a b c d : Int) (ha : U64 a) (hb : U64 b) (hc : U64 c) (hd : U64 d) : ∃ n, W256 n ∧ lim n 0 = a ∧ lim n 1 = b ∧ lim n 2 = c ∧ lim n 3 = d := by
 obtain ⟨n, hn, e⟩ := num_pos (fun i => if i = 0 then a else if i = 1 then b else if i = 2 then c else d) ha hb hc hd
 exact ⟨n, hn, lim_num _ n ha hb hc hd e⟩
def SlotsP (W : World) (nt : Bool) (e : Ending) (W' : World) : Prop :=
 ∃ sv l, e = .returned sv ∧ RowT W' W.heap.size sv l ∧ Rise l ∧ (∀ x ∈ l, W256 x.1 ∧ W256 x.2) ∧ l.length ≤ 20 ∧ (nt = false → ∀ x ∈ l, x.2 ≠ 0) ∧ Below W.heap.size W W'
theorem slots_raw (W : World) (v : Value) (zs : List (Int × Int)) (hr : RawAt W v zs) (nt : Bool) : Calls Tryz.prog 28 #[v, .bool nt] W (SlotsP W nt) := by
 have hmx : Tryz.prog.follows .mixedOrders = true := by kernel_rfl
 have HR := hid hr
 obtain ⟨a, cap, rfl, hnc, hcm, _⟩ := hr
 obtain ⟨n, hn⟩ : ∃ n, zs.length = n := ⟨_, rfl⟩
 rw [hn] at HR hnc ⊢
 have HN := hid hn
 have hlc := hid (Nat.le_trans hnc hcm)
 clear hnc hcm hn
 go_enter Tryz.func28, Tryz.ntmps28
 go_wp2_with fail
 go_loopw [5, 6] (fun ov i wr => ∃ (k : Nat) (l : List Sl), i = .int .i64 (k : Int) ∧ k ≤ n ∧ k ≤ 20 ∧ l.length ≤ k ∧ RowT wr W.heap.size ov l ∧ Rise l ∧ (∀ x ∈ l, W256 x.1 ∧ W256 x.2) ∧ (nt = false → ∀ x ∈ l, x.2 ≠ 0) ∧ Below W.heap.size W wr) (fun _ i _ => n - (intOf i).toNat)
 case atStart => exact ⟨0, [], rfl, by omega, by omega, by simp, ⟨rfl, .inl ⟨rfl, rfl⟩⟩, by unfold Rise; simp, by simp, by simp, Below.refl _ _⟩
 case round =>
  obtain ⟨k, l, rfl, hkn, hk20, hlk, hrow, hrise, hwide, hnz, hq⟩ := hrel
  obtain ⟨w0, hw0⟩ : ∃ w0, w0 = wr := ⟨_, rfl⟩
  subst hw0
  have HL := hid (And.intro hkn (And.intro hlk (And.intro hrise (And.intro hwide hnz))))
  have HQ := hid hq
  have HROW := hid hrow
  clear hlk hrise hwide hnz hq hrow
  by_cases hk : k < n ∧ k < 20
  ·have hknI : (k : Int) < (n : Int) := by omega
   have hk20I : (k : Int) < 20 := by omega
   have hk0 : (0 : Int) ≤ (k : Int) := by omega
   obtain ⟨p, hp⟩ : ∃ p, zs[k]? = some p := ⟨_, List.getElem?_eq_getElem (by have := HN.out; omega)⟩
   obtain ⟨a', cap', e', _, _, hall⟩ := HR.out
   injection e' with e1 e2 e3
   subst e1 e3
   obtain ⟨i1, i2, b, rfl, _⟩ := hall k p hp
   have HC := hid (fun (X : World) (hX : Below W.heap.size W X) => (show X.cell? (b.add (k * 2)) = some (.int .i64 p.1) ∧ X.cell? ⟨(b.add (k * 2)).block, (b.add (k * 2)).off + 1, none⟩ = some (.int .i64 p.2) from by
    obtain ⟨_, _, e', _, _, hall'⟩ := HR.out.later hX
    injection e' with e1 _ _
    subst e1
    obtain ⟨_, _, b', e'', h1, h2⟩ := hall' k p hp
    injection e'' with e''
    subst e''
    exact ⟨h1, h2⟩))
   have P1 := hid (pick_ret p.1 i1 24 (by omega) (by omega))
   have P2 := hid (pick_ret p.2 i2 5 (by omega) (by omega))
   have P3 := hid (pick_ret p.1 i1 5 (by omega) (by omega))
   have r1 := pickN_range p.1 24 (by omega)
   have r2 := pickN_range p.2 5 (by omega)
   have hkk := hid hk
   clear hk hkn hk20 e2 hall hp
   generalize pickN p.1 24 = c at *
   generalize pickN p.2 5 = d at *
   generalize pickN p.1 5 = pg at *
   generalize p.1 = p1 at *
   generalize p.2 = p2 at *
   have wc_ : IntKind.u64.wrap c = c := by rw [IntKind.wrap_u64]; omega
   have wd : IntKind.u64.wrap d = d := by rw [IntKind.wrap_u64]; omega
   go_wp2_with fail
   refine wp_region_ghost [some (.slice (some b) n cap), some (.int .i64 (k : Int)), some (.pointer (some (b.add (k * 2)))), some (.pointer (some (b.add (k * 2)))), some (.int .i64 p1), some (.int .i64 c), some (.int .u64 c), some (.agg #[.int .u64 c, .int .u64 0, .int .u64 0, .int .u64 0]), some (.slice (some b) n cap), some (.int .i64 (k : Int)), some (.pointer (some (b.add (k * 2)))), some (.pointer (some ⟨(b.add (k * 2)).block, (b.add (k * 2)).off + 1, none⟩)), some (.int .i64 p2), some (.int .i64 d), some (.int .u64 d), some (.agg #[.int .u64 d, .int .u64 0, .int .u64 0, .int .u64 0]), some (.agg #[.int .u64 c, .int .u64 0, .int .u64 0, .int .u64 0, .int .u64 d, .int .u64 0, .int .u64 0, .int .u64 0]), none, none] [[], [], [0, 1], [0, 1, 2], [0, 1, 2, 3], [0, 1, 2, 3, 4], [0, 1, 2, 3, 4, 5], [0, 1, 2, 3, 4, 5, 6], [], [], [8, 9], [8, 9, 10], [8, 9, 10, 11], [0, 1, 2, 3, 4, 5, 8, 9, 10, 11, 12], [0, 1, 2, 3, 4, 5, 8, 9, 10, 11, 12, 13], [0, 1, 2, 3, 4, 5, 8, 9, 10, 11, 12, 13, 14], [0, 1, 2, 3, 4, 5, 6, 7, 8, 9, 10, 11, 12, 13, 14, 15], [], [0, 1, 2, 3, 4, 5, 6, 7, 8, 9, 10, 11, 12, 13, 14, 15, 16, 17]] (fun f g w' => Below w0.heap.size w0 w' ∧ (f 17 = true → ∃ B, g 17 = .pointer (some ⟨B, 0, none⟩) ∧ w0.heap.size ≤ B ∧ Has w' B 63 (cellsIf (f 18) #[.int .u64 c, .int .u64 0, .int .u64 0, .int .u64 0, .int .u64 d, .int .u64 0, .int .u64 0, .int .u64 0] #[.int .u64 0, .int .u64 0, .int .u64 0, .int .u64 0, .int .u64 0, .int .u64 0, .int .u64 0, .int .u64 0])))
    (by kernel_rfl) (by kernel_rfl) (by kernel_rfl) ?_ ?_ ?_ ?_
   ·rintro f g wa wb ⟨h1, h2⟩ hb
    exact ⟨h1.trans (hb.mono h1.size), fun h => let ⟨B, e, hB, hL⟩ := h2 h; ⟨B, e, hB, hL.later hb⟩⟩
   ·intro f f' g g' wa h
    have ha := h 17 rfl
    have hs := h 18 rfl
    simp only [ha.1, ha.2, hs.1]
    exact id
   ·exact ⟨(Below.refl _ _).drew, by simp⟩
   rintro f g y ⟨h1, h2⟩ Dn
   have kc0 := (HC.out y (HQ.out.trans (h1.mono HQ.out.size))).1
   have kc1 := (HC.out y (HQ.out.trans (h1.mono HQ.out.size))).2
   refine GW.known _ rfl (fun hd hf => ?_) ?_
   ·go_wp2
    exact ⟨rfl, rfl, Below.refl _ _⟩
   simp only [Act.put, setIfInBounds_toArray, set_cons_succ, set_cons_zero]
   refine GW.known _ rfl (fun hd hf => ?_) ?_
   ·go_wp2
    exact ⟨rfl, rfl, Below.refl _ _⟩
   simp only [Act.put, setIfInBounds_toArray, set_cons_succ, set_cons_zero]
   refine GW.known _ rfl (fun hd hf => ?_) ?_
   ·go_wp2
    exact ⟨rfl, rfl, Below.refl _ _⟩
   simp only [Act.put, setIfInBounds_toArray, set_cons_succ, set_cons_zero]
   refine GW.known _ rfl (fun hd hf => ?_) ?_
   ·go_wp2
    exact ⟨rfl, rfl, Below.refl _ _⟩
   simp only [Act.put, setIfInBounds_toArray, set_cons_succ, set_cons_zero]
   refine GW.known _ rfl (fun hd hf => ?_) ?_
   ·go_wp2
    exact ⟨rfl, rfl, Below.refl _ _⟩
   simp only [Act.put, setIfInBounds_toArray, set_cons_succ, set_cons_zero]
   refine GW.known _ rfl (fun hd hf => ?_) ?_
   ·go_wp2_with fail
    refine (P1.out _).mono ?_
    rintro e u ⟨rfl, hb⟩
    go_wp2
    exact ⟨rfl, rfl, hb⟩
   simp only [Act.put, setIfInBounds_toArray, set_cons_succ, set_cons_zero]
   refine GW.known _ rfl (fun hd hf => ?_) ?_
   ·go_wp2
    exact ⟨rfl, rfl, Below.refl _ _⟩
   simp only [Act.put, setIfInBounds_toArray, set_cons_succ, set_cons_zero]
   refine GW.known _ rfl (fun hd hf => ?_) ?_
   ·go_wp2
    exact ⟨rfl, rfl, Below.refl _ _⟩
   simp only [Act.put, setIfInBounds_toArray, set_cons_succ, set_cons_zero]
   refine GW.known _ rfl (fun hd hf => ?_) ?_
   ·go_wp2
    exact ⟨rfl, rfl, Below.refl _ _⟩
   simp only [Act.put, setIfInBounds_toArray, set_cons_succ, set_cons_zero]
   refine GW.known _ rfl (fun hd hf => ?_) ?_
   ·go_wp2
    exact ⟨rfl, rfl, Below.refl _ _⟩
   simp only [Act.put, setIfInBounds_toArray, set_cons_succ, set_cons_zero]
   refine GW.known _ rfl (fun hd hf => ?_) ?_
   ·go_wp2
    exact ⟨rfl, rfl, Below.refl _ _⟩
   simp only [Act.put, setIfInBounds_toArray, set_cons_succ, set_cons_zero]
   refine GW.known _ rfl (fun hd hf => ?_) ?_
   ·go_wp2
    exact ⟨rfl, rfl, Below.refl _ _⟩
   simp only [Act.put, setIfInBounds_toArray, set_cons_succ, set_cons_zero]
   refine GW.known _ rfl (fun hd hf => ?_) ?_
   ·go_wp2
    exact ⟨rfl, rfl, Below.refl _ _⟩
   simp only [Act.put, setIfInBounds_toArray, set_cons_succ, set_cons_zero]
   refine GW.known _ rfl (fun hd hf => ?_) ?_
   ·go_wp2_with fail
    refine (P2.out _).mono ?_
    rintro e u ⟨rfl, hb⟩
    go_wp2
    exact ⟨rfl, rfl, hb⟩
   simp only [Act.put, setIfInBounds_toArray, set_cons_succ, set_cons_zero]
   refine GW.known _ rfl (fun hd hf => ?_) ?_
   ·go_wp2
    exact ⟨rfl, rfl, Below.refl _ _⟩
   simp only [Act.put, setIfInBounds_toArray, set_cons_succ, set_cons_zero]
   refine GW.known _ rfl (fun hd hf => ?_) ?_
   ·go_wp2
    exact ⟨rfl, rfl, Below.refl _ _⟩
   simp only [Act.put, setIfInBounds_toArray, set_cons_succ, set_cons_zero]
   refine GW.known _ rfl (fun hd hf => ?_) ?_
   ·go_wp2
    exact ⟨rfl, rfl, Below.refl _ _⟩
   simp only [Act.put, setIfInBounds_toArray, set_cons_succ, set_cons_zero]
   refine GW.open rfl (fun hd hf => ?_) ?_
   ·have fs : f 18 = false := by
     cases h : f 18 with
     | false => rfl
     | true => have := Dn 18 h 17 (by decide); rw [hf] at this; cases this
    have fu : upd f 17 true 18 = false := (upd_ne f true (show (18 : Nat) ≠ 17 by decide)).trans fs
    go_wp2
    refine ⟨rfl, h1.alloc h1.size _, fun _ => ⟨_, rfl, h1.size, ?_⟩⟩
    show Has _ _ 63 (cellsIf (upd f 17 true 18) #[.int .u64 c, .int .u64 0, .int .u64 0, .int .u64 0, .int .u64 d, .int .u64 0, .int .u64 0, .int .u64 0] #[.int .u64 0, .int .u64 0, .int .u64 0, .int .u64 0, .int .u64 0, .int .u64 0, .int .u64 0, .int .u64 0])
    rw [fu, cellsIf_false]
    exact Has.new _ _ _
   simp only [Act.put, setIfInBounds_toArray, set_cons_succ, set_cons_zero]
   refine GW.open rfl (fun hd hf => ?_) ?_
   ·obtain ⟨B, eB, hB, LB⟩ := h2 (hd 17 (by decide))
    rw [hf, cellsIf_false] at LB
    rw [eB]
    have c0 := LB.cell 0 _ rfl
    have z0 := LB.frozen 0
    have c1 := LB.cell 1 _ rfl
    have z1 := LB.frozen 1
    have c2 := LB.cell 2 _ rfl
    have z2 := LB.frozen 2
    have c3 := LB.cell 3 _ rfl
    have z3 := LB.frozen 3
    have c4 := LB.cell 4 _ rfl
    have z4 := LB.frozen 4
    have c5 := LB.cell 5 _ rfl
    have z5 := LB.frozen 5
    have c6 := LB.cell 6 _ rfl
    have z6 := LB.frozen 6
    have c7 := LB.cell 7 _ rfl
    have z7 := LB.frozen 7
    go_wp2
    refine ⟨rfl, ((((((((h1.setCell (p := ⟨B, 0, none⟩) hB (.int .u64 c)).setCell (p := ⟨B, 1, none⟩) hB (.int .u64 0)).setCell (p := ⟨B, 2, none⟩) hB (.int .u64 0)).setCell (p := ⟨B, 3, none⟩) hB (.int .u64 0)).setCell (p := ⟨B, 4, none⟩) hB (.int .u64 d)).setCell (p := ⟨B, 5, none⟩) hB (.int .u64 0)).setCell (p := ⟨B, 6, none⟩) hB (.int .u64 0)).setCell (p := ⟨B, 7, none⟩) hB (.int .u64 0)), fun _ => ⟨B, eB, hB, ?_⟩⟩
    show Has _ B 63 (cellsIf (upd f 18 true 18) #[.int .u64 c, .int .u64 0, .int .u64 0, .int .u64 0, .int .u64 d, .int .u64 0, .int .u64 0, .int .u64 0] #[.int .u64 0, .int .u64 0, .int .u64 0, .int .u64 0, .int .u64 0, .int .u64 0, .int .u64 0, .int .u64 0])
    rw [upd_self, cellsIf_true]
    exact ((((((((LB.set 0 (.int .u64 c)).set 1 (.int .u64 0)).set 2 (.int .u64 0)).set 3 (.int .u64 0)).set 4 (.int .u64 d)).set 5 (.int .u64 0)).set 6 (.int .u64 0)).set 7 (.int .u64 0))
   simp only [Act.put, setIfInBounds_toArray, set_cons_succ, set_cons_zero]
   refine GW.nil (fun hall => ?_)
   obtain ⟨B7, eB, hB, L7⟩ := h2 (hall 17 (by omega))
   rw [hall 18 (by omega), cellsIf_true] at L7
   have HB7 := hid (And.intro hB L7)
   have HQ7 := hid h1
   clear h2 Dn hall hB L7
   rw [eB]
   clear eB h1
   go_wp2_with fail
   refine (P3.out _).mono ?_
   rintro e y2 ⟨rfl, hb⟩
   have HB8 := hid (HB7.out.2.later hb)
   have HQ8 := hid (HQ7.out.trans (hb.mono HQ7.out.size))
   have hB7 := hid HB7.out.1
   clear kc0 kc1 hb P1 P2 P3 HB7 HQ7 HC
   have kk3 := HB8.out.cell 3 _ rfl
   have ff3 := HB8.out.frozen 3
   go_upto_if 44 with fail
   go_cut [] from 11 to 101 (fun wx => ∃ q : Int, (q = 0 ∨ q = 7) ∧ Has wx B7 63 #[.int .u64 c, .int .u64 0, .int .u64 0, .int .u64 q, .int .u64 d, .int .u64 0, .int .u64 0, .int .u64 0] ∧ Below w0.heap.size w0 wx)
   case first =>
    by_cases hg : pg = 0
    ·have hgb : (pg == 0) = true := by simp [hg]
     have S := hid (HB8.out.set 3 (.int .u64 7))
     have QS := hid (HQ8.out.setCell (p := ⟨B7, 3, none⟩) hB7.out (.int .u64 7))
     clear hg
     go_wp2_with fail
     go_meet
     exact ⟨7, .inr rfl, S.out, QS.out⟩
    ·have hgb : (pg == 0) = false := by simp [hg]
     clear hg
     go_wp2_with fail
     go_meet
     exact ⟨0, .inl rfl, HB8.out, HQ8.out⟩
   case rest =>
    obtain ⟨q, hq, hBx, hqx⟩ := hcut
    have HBX := hid hBx
    have HQX := hid hqx
    have hqq := hid hq
    have hcc := hid (And.intro r1 r2)
    clear hBx hqx hq HB8 HQ8 kk3 ff3 r1 r2 wc_ wd
    have m4 := HBX.out.cell 4 _ rfl
    have m5 := HBX.out.cell 5 _ rfl
    have m6 := HBX.out.cell 6 _ rfl
    have m7 := HBX.out.cell 7 _ rfl
    have n4 := HBX.out.frozen 4
    have n5 := HBX.out.frozen 5
    have n6 := HBX.out.frozen 6
    have n7 := HBX.out.frozen 7
    obtain ⟨wb, hwb⟩ : ∃ wb, wb = wc := ⟨_, rfl⟩
    subst hwb
    go_upto_region 8 with fail
    go_cut [54] from 11 to 101 (fun u wx => u = .bool (decide (d = 0) && !nt) ∧ wx = wb)
    case first =>
     by_cases hd : d = 0
     ·have hdb : (d == 0) = true := by simp [hd]
      have hdd := hid (show decide (d = 0) = true from decide_eq_true hd)
      clear hd
      cases nt <;> (go_wp2_with fail; go_meet; exact ⟨by rw [hdd.out]; rfl, rfl⟩)
     ·have hdb : (d == 0) = false := by simp [hd]
      have hdd := hid (show decide (d = 0) = false from decide_eq_false hd)
      clear hd
      cases nt <;> (go_wp2_with fail; go_meet; exact ⟨by rw [hdd.out]; rfl, rfl⟩)
    case rest =>
     obtain ⟨rfl, rfl⟩ := hcut
     go_upto_if 54 with fail
     go_cut [] from 11 to 101 (fun wx => ∃ x : Sl, (W256 x.1 ∧ W256 x.2) ∧ (nt = false → x.2 ≠ 0) ∧ Has wx B7 63 (slC x).toArray ∧ Below w0.heap.size w0 wx)
     case first =>
      obtain ⟨kn, wkn, ek0, ek1, ek2, ek3⟩ := four c 0 0 q (by have := hcc.out; unfold U64; omega) (by unfold U64; omega) (by unfold U64; omega) (by have := hqq.out; unfold U64; omega)
      obtain ⟨z, hz⟩ : ∃ z, (decide (d = 0) && !nt) = z := ⟨_, rfl⟩
      rw [hz]
      cases z
      ·obtain ⟨vn, wvn, ev0, ev1, ev2, ev3⟩ := four d 0 0 0 (by have := hcc.out; unfold U64; omega) (by unfold U64; omega) (by unfold U64; omega) (by unfold U64; omega)
       have KK := hid (show ∃ x : Sl, (W256 x.1 ∧ W256 x.2) ∧ (nt = false → x.2 ≠ 0) ∧ Has wc B7 63 (slC x).toArray ∧ Below w0.heap.size w0 wc from ⟨(kn, vn), ⟨wkn, wvn⟩, fun h0 hv => by
        rw [h0] at hz
        have hv' : vn = 0 := hv
        rw [hv', lim_zero] at ev0
        rw [← ev0] at hz
        simp at hz, by
        have e := HBX.out
        rw [← ek0, ← ek3, ← ev0] at e
        simp only [slC, ek1, ek2, ev1, ev2, ev3]
        exact e, HQX.out⟩)
       clear hz ek0 ek1 ek2 ek3 ev0 ev1 ev2 ev3 wkn wvn
       go_wp2_with fail
       go_meet
       exact KK.out
      ·obtain ⟨vn, wvn, ev0, ev1, ev2, ev3⟩ := four 0 0 0 9 (by unfold U64; omega) (by unfold U64; omega) (by unfold U64; omega) (by unfold U64; omega)
       have S := ((((HBX.out.set 4 (.int .u64 0)).set 5 (.int .u64 0)).set 6 (.int .u64 0)).set 7 (.int .u64 9))
       have QS := ((((HQX.out.setCell (p := ⟨B7, 4, none⟩) hB7.out (.int .u64 0)).setCell (p := ⟨B7, 5, none⟩) hB7.out (.int .u64 0)).setCell (p := ⟨B7, 6, none⟩) hB7.out (.int .u64 0)).setCell (p := ⟨B7, 7, none⟩) hB7.out (.int .u64 9))
       have KK := hid (show ∃ x : Sl, (W256 x.1 ∧ W256 x.2) ∧ (nt = false → x.2 ≠ 0) ∧ Has ((((wc.setCell ⟨B7, 4, none⟩ (.int .u64 0)).setCell ⟨B7, 5, none⟩ (.int .u64 0)).setCell ⟨B7, 6, none⟩ (.int .u64 0)).setCell ⟨B7, 7, none⟩ (.int .u64 9)) B7 63 (slC x).toArray ∧ Below w0.heap.size w0 ((((wc.setCell ⟨B7, 4, none⟩ (.int .u64 0)).setCell ⟨B7, 5, none⟩ (.int .u64 0)).setCell ⟨B7, 6, none⟩ (.int .u64 0)).setCell ⟨B7, 7, none⟩ (.int .u64 9)) from ⟨(kn, vn), ⟨wkn, wvn⟩, fun _ hv => by
        have hv' : vn = 0 := hv
        rw [hv', lim_zero] at ev3
        omega, by
        have e := S
        simp only [slC, ek0, ek1, ek2, ek3, ev0, ev1, ev2, ev3]
        exact e, QS⟩)
       clear hz ek0 ek1 ek2 ek3 ev0 ev1 ev2 ev3 wkn wvn S QS
       go_wp2_with fail
       go_meet
       exact KK.out
     case rest =>
      obtain ⟨x, wx, nx, hbx, hqx⟩ := hcut
      have HX := hid (And.intro wx nx)
      obtain ⟨oa, oc, rfl⟩ := HROW.out.shape
      obtain ⟨L, hL⟩ : ∃ L, l.length = L := ⟨_, rfl⟩
      have OUT := hid ((HROW.out.later hqx).slots HL.out.2.2.2.1)
      rw [hL] at OUT ⊢
      have HLL := hid hL
      have HBX2 := hid hbx
      have HQX2 := hid hqx
      clear wx nx hbx hqx hL HBX HQX hqq hcc m4 m5 m6 m7 n4 n5 n6 n7
      obtain ⟨w1, hw1⟩ : ∃ w1, w1 = wc := ⟨_, rfl⟩
      subst hw1
      go_wp2_with fail
      go_loopw [8, 9, 10] (fun nv dn j w2 => ∃ (m : Nat) (now : List Sl) (done : Bool), dn = .bool done ∧ j = .int .i64 (m : Int) ∧ m ≤ L ∧ Ins x l m now done ∧ RowT w2 w1.heap.size nv now ∧ Below w1.heap.size w1 w2) (fun _ _ j _ => L - (intOf j).toNat)
      case atStart => exact ⟨0, [], false, rfl, rfl, by omega, Ins.start x l, ⟨rfl, .inl ⟨rfl, rfl⟩⟩, Below.refl _ _⟩
      case round =>
       obtain ⟨m, now, done, rfl, rfl, hmL, hins, hrow, hq⟩ := hrel
       have HINS := hid hins
       have HR2 := hid hrow
       have HQ2 := hid hq
       clear hins hrow hq
       by_cases hmlt : m < L
       ·have hmI : (m : Int) < (L : Int) := by omega
        have hm0 : (0 : Int) ≤ (m : Int) := by omega
        have hmb : (m : Int) ≤ 9223372036854775806 := by have := HL.out.2.1; have := HLL.out; have := hkk.out; omega
        obtain ⟨y, hy⟩ : ∃ y, l[m]? = some y := ⟨_, List.getElem?_eq_getElem (by have := HLL.out; omega)⟩
        obtain ⟨ob, rfl, _⟩ := OUT.out.at hy
        have wy := OUT.out.wide hy
        have HM := hid (show m < L from hmlt)
        have HY := hid (And.intro hy wy)
        have HCY := hid (fun (X : World) (hX : Below w1.heap.size w1 X) => (OUT.out.later hX).at' hy)
        have HCX := hid (fun (X : World) (hX : Below w1.heap.size w1 X) => HBX2.out.later hX)
        have CR0 := refCmp_ret y.1 x.1 wy.1 HX.out.1.1
        have hgeq := wcmp_ge y.1 x.1
        have hEq0 := eqv_w y.1 x.1 wy.1 HX.out.1.1
        unfold wv at CR0
        have CR := hid CR0
        have HGE := hid hgeq
        have HEQ := hid hEq0
        clear hmlt hmL hy wy CR0 hgeq hEq0
        generalize wcmp y.1 x.1 = cm at *
        have hnl := hid (show now.length ≤ 100 from by have h := HINS.out.len; have := HL.out.2.1; have := HLL.out; have := hkk.out; have := HM.out; split at h <;> omega)
        rcases done with _ | _
        ·rcases Nat.lt_trichotomy y.1 x.1 with hlt | heq | hgt
         ·have hc : ¬ 0 ≤ cm := fun h => by have := HGE.out.1 h; omega
          replace HEQ := hid (HEQ.out.trans (decide_eq_false (by omega)))
          have Hhlt := hid hlt
          clear hlt
          have ky0 := fun z : Ext wr => (HCY.out z.w (HQ2.out.trans (z.below.mono HQ2.out.size))).1
          have kx0 : ∀ z : Ext wr, z.w.cell? ⟨B7, 0, none⟩ = some (.int .u64 (lim x.1 0)) := fun z => (HCX.out z.w (HQ2.out.trans (z.below.mono HQ2.out.size))).cell 0 _ rfl
          have ky1 := fun z : Ext wr => (HCY.out z.w (HQ2.out.trans (z.below.mono HQ2.out.size))).2.1
          have kx1 : ∀ z : Ext wr, z.w.cell? ⟨B7, 1, none⟩ = some (.int .u64 (lim x.1 1)) := fun z => (HCX.out z.w (HQ2.out.trans (z.below.mono HQ2.out.size))).cell 1 _ rfl
          have ky2 := fun z : Ext wr => (HCY.out z.w (HQ2.out.trans (z.below.mono HQ2.out.size))).2.2.1
          have kx2 : ∀ z : Ext wr, z.w.cell? ⟨B7, 2, none⟩ = some (.int .u64 (lim x.1 2)) := fun z => (HCX.out z.w (HQ2.out.trans (z.below.mono HQ2.out.size))).cell 2 _ rfl
          have ky3 := fun z : Ext wr => (HCY.out z.w (HQ2.out.trans (z.below.mono HQ2.out.size))).2.2.2.1
          have kx3 : ∀ z : Ext wr, z.w.cell? ⟨B7, 3, none⟩ = some (.int .u64 (lim x.1 3)) := fun z => (HCX.out z.w (HQ2.out.trans (z.below.mono HQ2.out.size))).cell 3 _ rfl
          go_wp2_with fail
          refine wp_region_quietL (C := Grows wr) hmx (by kernel_rfl) (grows_refl wr) ?_
          repeat (go_big_quiet_step (first | (with_reducible exact Ret.at CR.out _)))
          refine wpQuiet_nil ?_
          rintro _ ⟨z1, rfl⟩
          have Q3 := hid (HQ2.out.trans (z1.below.mono HQ2.out.size))
          have R3 := hid (HR2.out.later z1.below)
          try clear ky0 kx0 ky1 kx1 ky2 kx2 ky3 kx3
          try clear hEQ
          go_wp2_with fail
          clear hc
          have ky0 := fun z : Ext z1.w => (HCY.out z.w (Q3.out.trans (z.below.mono Q3.out.size))).1
          have kx0 : ∀ z : Ext z1.w, z.w.cell? ⟨B7, 0, none⟩ = some (.int .u64 (lim x.1 0)) := fun z => (HCX.out z.w (Q3.out.trans (z.below.mono Q3.out.size))).cell 0 _ rfl
          have ky1 := fun z : Ext z1.w => (HCY.out z.w (Q3.out.trans (z.below.mono Q3.out.size))).2.1
          have kx1 : ∀ z : Ext z1.w, z.w.cell? ⟨B7, 1, none⟩ = some (.int .u64 (lim x.1 1)) := fun z => (HCX.out z.w (Q3.out.trans (z.below.mono Q3.out.size))).cell 1 _ rfl
          have ky2 := fun z : Ext z1.w => (HCY.out z.w (Q3.out.trans (z.below.mono Q3.out.size))).2.2.1
          have kx2 : ∀ z : Ext z1.w, z.w.cell? ⟨B7, 2, none⟩ = some (.int .u64 (lim x.1 2)) := fun z => (HCX.out z.w (Q3.out.trans (z.below.mono Q3.out.size))).cell 2 _ rfl
          have ky3 := fun z : Ext z1.w => (HCY.out z.w (Q3.out.trans (z.below.mono Q3.out.size))).2.2.2.1
          have kx3 : ∀ z : Ext z1.w, z.w.cell? ⟨B7, 3, none⟩ = some (.int .u64 (lim x.1 3)) := fun z => (HCX.out z.w (Q3.out.trans (z.below.mono Q3.out.size))).cell 3 _ rfl
          have hEQ := HEQ.out
          refine wp_region_quietL (C := Grows z1.w) hmx (by kernel_rfl) (grows_refl z1.w) ?_
          repeat (go_big_quiet_step (fail))
          refine wpQuiet_nil ?_
          rintro _ ⟨z2, rfl⟩
          have Q4 := hid (Q3.out.trans (z2.below.mono Q3.out.size))
          have R4 := hid (R3.out.later z2.below)
          try clear ky0 kx0 ky1 kx1 ky2 kx2 ky3 kx3
          try clear hEQ
          have p0 := (HCY.out z2.w Q4.out).1
          have p1 := (HCY.out z2.w Q4.out).2.1
          have p2 := (HCY.out z2.w Q4.out).2.2.1
          have p3 := (HCY.out z2.w Q4.out).2.2.2.1
          have p4 := (HCY.out z2.w Q4.out).2.2.2.2.1
          have p5 := (HCY.out z2.w Q4.out).2.2.2.2.2.1
          have p6 := (HCY.out z2.w Q4.out).2.2.2.2.2.2.1
          have p7 := (HCY.out z2.w Q4.out).2.2.2.2.2.2.2
          obtain ⟨v5, W5, hr0, hrw, hbw⟩ := push_slot z2.w w1.heap.size (u8) now R4.out Q4.out.size (by have := hnl.out; (try simp only [List.length_append, List.length_cons, List.length_nil]); omega) y
          have hr : (Builtin.append_ #[29, 29] 29 #[u8, .slice (some ⟨z2.w.heap.size, 0, none⟩) 1 1]).run Tryz.prog (z2.w.alloc (.cells #[.int .u64 (lim y.1 0), .int .u64 (lim y.1 1), .int .u64 (lim y.1 2), .int .u64 (lim y.1 3), .int .u64 (lim y.2 0), .int .u64 (lim y.2 1), .int .u64 (lim y.2 2), .int .u64 (lim y.2 3)] 63)) = .ok v5 W5 := hr0
          have R5 := hid hrw
          have Q5 := hid (Q4.out.trans hbw)
          clear hr0 hrw hbw
          go_wp2_with (at_builtin; refine wpList_append_run rfl (.tmp 88) (.tmp 93) 29 rfl _ _ _ rfl rfl hr ?_)
          clear hr p0 p1 p2 p3 p4 p5 p6 p7
          go_roundw
          case rel => exact ⟨m + 1, now ++ [y], false, rfl, by simp, by have := HM.out; omega, HINS.out.stay HL.out.2.2.1 HY.out.1 (fun _ => Hhlt.out), R5.out, Q5.out⟩
          case measure => have := HM.out; simp [intOf]; omega
         ·have hc : 0 ≤ cm := HGE.out.2 (by omega)
          replace HEQ := hid (HEQ.out.trans (decide_eq_true (by omega)))
          have Hheq := hid heq
          clear heq
          have ky0 := fun z : Ext wr => (HCY.out z.w (HQ2.out.trans (z.below.mono HQ2.out.size))).1
          have kx0 : ∀ z : Ext wr, z.w.cell? ⟨B7, 0, none⟩ = some (.int .u64 (lim x.1 0)) := fun z => (HCX.out z.w (HQ2.out.trans (z.below.mono HQ2.out.size))).cell 0 _ rfl
          have ky1 := fun z : Ext wr => (HCY.out z.w (HQ2.out.trans (z.below.mono HQ2.out.size))).2.1
          have kx1 : ∀ z : Ext wr, z.w.cell? ⟨B7, 1, none⟩ = some (.int .u64 (lim x.1 1)) := fun z => (HCX.out z.w (HQ2.out.trans (z.below.mono HQ2.out.size))).cell 1 _ rfl
          have ky2 := fun z : Ext wr => (HCY.out z.w (HQ2.out.trans (z.below.mono HQ2.out.size))).2.2.1
          have kx2 : ∀ z : Ext wr, z.w.cell? ⟨B7, 2, none⟩ = some (.int .u64 (lim x.1 2)) := fun z => (HCX.out z.w (HQ2.out.trans (z.below.mono HQ2.out.size))).cell 2 _ rfl
          have ky3 := fun z : Ext wr => (HCY.out z.w (HQ2.out.trans (z.below.mono HQ2.out.size))).2.2.2.1
          have kx3 : ∀ z : Ext wr, z.w.cell? ⟨B7, 3, none⟩ = some (.int .u64 (lim x.1 3)) := fun z => (HCX.out z.w (HQ2.out.trans (z.below.mono HQ2.out.size))).cell 3 _ rfl
          go_wp2_with fail
          refine wp_region_quietL (C := Grows wr) hmx (by kernel_rfl) (grows_refl wr) ?_
          repeat (go_big_quiet_step (first | (with_reducible exact Ret.at CR.out _)))
          refine wpQuiet_nil ?_
          rintro _ ⟨z1, rfl⟩
          have Q3 := hid (HQ2.out.trans (z1.below.mono HQ2.out.size))
          have R3 := hid (HR2.out.later z1.below)
          try clear ky0 kx0 ky1 kx1 ky2 kx2 ky3 kx3
          try clear hEQ
          have p0 : z1.w.cell? ⟨B7, 0, none⟩ = some (.int .u64 (lim x.1 0)) := (HCX.out z1.w Q3.out).cell 0 _ rfl
          have p1 : z1.w.cell? ⟨B7, 1, none⟩ = some (.int .u64 (lim x.1 1)) := (HCX.out z1.w Q3.out).cell 1 _ rfl
          have p2 : z1.w.cell? ⟨B7, 2, none⟩ = some (.int .u64 (lim x.1 2)) := (HCX.out z1.w Q3.out).cell 2 _ rfl
          have p3 : z1.w.cell? ⟨B7, 3, none⟩ = some (.int .u64 (lim x.1 3)) := (HCX.out z1.w Q3.out).cell 3 _ rfl
          have p4 : z1.w.cell? ⟨B7, 4, none⟩ = some (.int .u64 (lim x.2 0)) := (HCX.out z1.w Q3.out).cell 4 _ rfl
          have p5 : z1.w.cell? ⟨B7, 5, none⟩ = some (.int .u64 (lim x.2 1)) := (HCX.out z1.w Q3.out).cell 5 _ rfl
          have p6 : z1.w.cell? ⟨B7, 6, none⟩ = some (.int .u64 (lim x.2 2)) := (HCX.out z1.w Q3.out).cell 6 _ rfl
          have p7 : z1.w.cell? ⟨B7, 7, none⟩ = some (.int .u64 (lim x.2 3)) := (HCX.out z1.w Q3.out).cell 7 _ rfl
          obtain ⟨v4, W4, hr0, hrw, hbw⟩ := push_slot z1.w w1.heap.size (u8) now R3.out Q3.out.size (by have := hnl.out; (try simp only [List.length_append, List.length_cons, List.length_nil]); omega) x
          have hr : (Builtin.append_ #[29, 29] 29 #[u8, .slice (some ⟨z1.w.heap.size, 0, none⟩) 1 1]).run Tryz.prog (z1.w.alloc (.cells #[.int .u64 (lim x.1 0), .int .u64 (lim x.1 1), .int .u64 (lim x.1 2), .int .u64 (lim x.1 3), .int .u64 (lim x.2 0), .int .u64 (lim x.2 1), .int .u64 (lim x.2 2), .int .u64 (lim x.2 3)] 63)) = .ok v4 W4 := hr0
          have R4 := hid hrw
          have Q4 := hid (Q3.out.trans hbw)
          clear hr0 hrw hbw
          go_wp2_with (at_builtin; refine wpList_append_run rfl (.tmp 76) (.tmp 78) 29 rfl _ _ _ rfl rfl hr ?_)
          clear hr p0 p1 p2 p3 p4 p5 p6 p7
          clear hc
          have ky0 := fun z : Ext W4 => (HCY.out z.w (Q4.out.trans (z.below.mono Q4.out.size))).1
          have kx0 : ∀ z : Ext W4, z.w.cell? ⟨B7, 0, none⟩ = some (.int .u64 (lim x.1 0)) := fun z => (HCX.out z.w (Q4.out.trans (z.below.mono Q4.out.size))).cell 0 _ rfl
          have ky1 := fun z : Ext W4 => (HCY.out z.w (Q4.out.trans (z.below.mono Q4.out.size))).2.1
          have kx1 : ∀ z : Ext W4, z.w.cell? ⟨B7, 1, none⟩ = some (.int .u64 (lim x.1 1)) := fun z => (HCX.out z.w (Q4.out.trans (z.below.mono Q4.out.size))).cell 1 _ rfl
          have ky2 := fun z : Ext W4 => (HCY.out z.w (Q4.out.trans (z.below.mono Q4.out.size))).2.2.1
          have kx2 : ∀ z : Ext W4, z.w.cell? ⟨B7, 2, none⟩ = some (.int .u64 (lim x.1 2)) := fun z => (HCX.out z.w (Q4.out.trans (z.below.mono Q4.out.size))).cell 2 _ rfl
          have ky3 := fun z : Ext W4 => (HCY.out z.w (Q4.out.trans (z.below.mono Q4.out.size))).2.2.2.1
          have kx3 : ∀ z : Ext W4, z.w.cell? ⟨B7, 3, none⟩ = some (.int .u64 (lim x.1 3)) := fun z => (HCX.out z.w (Q4.out.trans (z.below.mono Q4.out.size))).cell 3 _ rfl
          have hEQ := HEQ.out
          refine wp_region_quietL (C := Grows W4) hmx (by kernel_rfl) (grows_refl W4) ?_
          repeat (go_big_quiet_step (fail))
          refine wpQuiet_nil ?_
          rintro _ ⟨z2, rfl⟩
          have Q5 := hid (Q4.out.trans (z2.below.mono Q4.out.size))
          have R5 := hid (R4.out.later z2.below)
          try clear ky0 kx0 ky1 kx1 ky2 kx2 ky3 kx3
          try clear hEQ
          go_wp2_with fail
          go_roundw
          case rel => exact ⟨m + 1, now ++ [x], true, rfl, by simp, by have := HM.out; omega, HINS.out.same HL.out.2.2.1 HY.out.1 Hheq.out.symm, R5.out, Q5.out⟩
          case measure => have := HM.out; simp [intOf]; omega
         ·have hc : 0 ≤ cm := HGE.out.2 (by omega)
          replace HEQ := hid (HEQ.out.trans (decide_eq_false (by omega)))
          have Hhgt := hid hgt
          clear hgt
          have ky0 := fun z : Ext wr => (HCY.out z.w (HQ2.out.trans (z.below.mono HQ2.out.size))).1
          have kx0 : ∀ z : Ext wr, z.w.cell? ⟨B7, 0, none⟩ = some (.int .u64 (lim x.1 0)) := fun z => (HCX.out z.w (HQ2.out.trans (z.below.mono HQ2.out.size))).cell 0 _ rfl
          have ky1 := fun z : Ext wr => (HCY.out z.w (HQ2.out.trans (z.below.mono HQ2.out.size))).2.1
          have kx1 : ∀ z : Ext wr, z.w.cell? ⟨B7, 1, none⟩ = some (.int .u64 (lim x.1 1)) := fun z => (HCX.out z.w (HQ2.out.trans (z.below.mono HQ2.out.size))).cell 1 _ rfl
          have ky2 := fun z : Ext wr => (HCY.out z.w (HQ2.out.trans (z.below.mono HQ2.out.size))).2.2.1
          have kx2 : ∀ z : Ext wr, z.w.cell? ⟨B7, 2, none⟩ = some (.int .u64 (lim x.1 2)) := fun z => (HCX.out z.w (HQ2.out.trans (z.below.mono HQ2.out.size))).cell 2 _ rfl
          have ky3 := fun z : Ext wr => (HCY.out z.w (HQ2.out.trans (z.below.mono HQ2.out.size))).2.2.2.1
          have kx3 : ∀ z : Ext wr, z.w.cell? ⟨B7, 3, none⟩ = some (.int .u64 (lim x.1 3)) := fun z => (HCX.out z.w (HQ2.out.trans (z.below.mono HQ2.out.size))).cell 3 _ rfl
          go_wp2_with fail
          refine wp_region_quietL (C := Grows wr) hmx (by kernel_rfl) (grows_refl wr) ?_
          repeat (go_big_quiet_step (first | (with_reducible exact Ret.at CR.out _)))
          refine wpQuiet_nil ?_
          rintro _ ⟨z1, rfl⟩
          have Q3 := hid (HQ2.out.trans (z1.below.mono HQ2.out.size))
          have R3 := hid (HR2.out.later z1.below)
          try clear ky0 kx0 ky1 kx1 ky2 kx2 ky3 kx3
          try clear hEQ
          have p0 : z1.w.cell? ⟨B7, 0, none⟩ = some (.int .u64 (lim x.1 0)) := (HCX.out z1.w Q3.out).cell 0 _ rfl
          have p1 : z1.w.cell? ⟨B7, 1, none⟩ = some (.int .u64 (lim x.1 1)) := (HCX.out z1.w Q3.out).cell 1 _ rfl
          have p2 : z1.w.cell? ⟨B7, 2, none⟩ = some (.int .u64 (lim x.1 2)) := (HCX.out z1.w Q3.out).cell 2 _ rfl
          have p3 : z1.w.cell? ⟨B7, 3, none⟩ = some (.int .u64 (lim x.1 3)) := (HCX.out z1.w Q3.out).cell 3 _ rfl
          have p4 : z1.w.cell? ⟨B7, 4, none⟩ = some (.int .u64 (lim x.2 0)) := (HCX.out z1.w Q3.out).cell 4 _ rfl
          have p5 : z1.w.cell? ⟨B7, 5, none⟩ = some (.int .u64 (lim x.2 1)) := (HCX.out z1.w Q3.out).cell 5 _ rfl
          have p6 : z1.w.cell? ⟨B7, 6, none⟩ = some (.int .u64 (lim x.2 2)) := (HCX.out z1.w Q3.out).cell 6 _ rfl
          have p7 : z1.w.cell? ⟨B7, 7, none⟩ = some (.int .u64 (lim x.2 3)) := (HCX.out z1.w Q3.out).cell 7 _ rfl
          obtain ⟨v4, W4, hr0, hrw, hbw⟩ := push_slot z1.w w1.heap.size (u8) now R3.out Q3.out.size (by have := hnl.out; (try simp only [List.length_append, List.length_cons, List.length_nil]); omega) x
          have hr : (Builtin.append_ #[29, 29] 29 #[u8, .slice (some ⟨z1.w.heap.size, 0, none⟩) 1 1]).run Tryz.prog (z1.w.alloc (.cells #[.int .u64 (lim x.1 0), .int .u64 (lim x.1 1), .int .u64 (lim x.1 2), .int .u64 (lim x.1 3), .int .u64 (lim x.2 0), .int .u64 (lim x.2 1), .int .u64 (lim x.2 2), .int .u64 (lim x.2 3)] 63)) = .ok v4 W4 := hr0
          have R4 := hid hrw
          have Q4 := hid (Q3.out.trans hbw)
          clear hr0 hrw hbw
          go_wp2_with (at_builtin; refine wpList_append_run rfl (.tmp 76) (.tmp 78) 29 rfl _ _ _ rfl rfl hr ?_)
          clear hr p0 p1 p2 p3 p4 p5 p6 p7
          clear hc
          have ky0 := fun z : Ext W4 => (HCY.out z.w (Q4.out.trans (z.below.mono Q4.out.size))).1
          have kx0 : ∀ z : Ext W4, z.w.cell? ⟨B7, 0, none⟩ = some (.int .u64 (lim x.1 0)) := fun z => (HCX.out z.w (Q4.out.trans (z.below.mono Q4.out.size))).cell 0 _ rfl
          have ky1 := fun z : Ext W4 => (HCY.out z.w (Q4.out.trans (z.below.mono Q4.out.size))).2.1
          have kx1 : ∀ z : Ext W4, z.w.cell? ⟨B7, 1, none⟩ = some (.int .u64 (lim x.1 1)) := fun z => (HCX.out z.w (Q4.out.trans (z.below.mono Q4.out.size))).cell 1 _ rfl
          have ky2 := fun z : Ext W4 => (HCY.out z.w (Q4.out.trans (z.below.mono Q4.out.size))).2.2.1
          have kx2 : ∀ z : Ext W4, z.w.cell? ⟨B7, 2, none⟩ = some (.int .u64 (lim x.1 2)) := fun z => (HCX.out z.w (Q4.out.trans (z.below.mono Q4.out.size))).cell 2 _ rfl
          have ky3 := fun z : Ext W4 => (HCY.out z.w (Q4.out.trans (z.below.mono Q4.out.size))).2.2.2.1
          have kx3 : ∀ z : Ext W4, z.w.cell? ⟨B7, 3, none⟩ = some (.int .u64 (lim x.1 3)) := fun z => (HCX.out z.w (Q4.out.trans (z.below.mono Q4.out.size))).cell 3 _ rfl
          have hEQ := HEQ.out
          refine wp_region_quietL (C := Grows W4) hmx (by kernel_rfl) (grows_refl W4) ?_
          repeat (go_big_quiet_step (fail))
          refine wpQuiet_nil ?_
          rintro _ ⟨z2, rfl⟩
          have Q5 := hid (Q4.out.trans (z2.below.mono Q4.out.size))
          have R5 := hid (R4.out.later z2.below)
          try clear ky0 kx0 ky1 kx1 ky2 kx2 ky3 kx3
          try clear hEQ
          have p0 := (HCY.out z2.w Q5.out).1
          have p1 := (HCY.out z2.w Q5.out).2.1
          have p2 := (HCY.out z2.w Q5.out).2.2.1
          have p3 := (HCY.out z2.w Q5.out).2.2.2.1
          have p4 := (HCY.out z2.w Q5.out).2.2.2.2.1
          have p5 := (HCY.out z2.w Q5.out).2.2.2.2.2.1
          have p6 := (HCY.out z2.w Q5.out).2.2.2.2.2.2.1
          have p7 := (HCY.out z2.w Q5.out).2.2.2.2.2.2.2
          obtain ⟨v6, W6, hr0, hrw, hbw⟩ := push_slot z2.w w1.heap.size (v4) (now ++ [x]) R5.out Q5.out.size (by have := hnl.out; (try simp only [List.length_append, List.length_cons, List.length_nil]); omega) y
          have hr : (Builtin.append_ #[29, 29] 29 #[v4, .slice (some ⟨z2.w.heap.size, 0, none⟩) 1 1]).run Tryz.prog (z2.w.alloc (.cells #[.int .u64 (lim y.1 0), .int .u64 (lim y.1 1), .int .u64 (lim y.1 2), .int .u64 (lim y.1 3), .int .u64 (lim y.2 0), .int .u64 (lim y.2 1), .int .u64 (lim y.2 2), .int .u64 (lim y.2 3)] 63)) = .ok v6 W6 := hr0
          have R6 := hid hrw
          have Q6 := hid (Q5.out.trans hbw)
          clear hr0 hrw hbw
          go_wp2_with (at_builtin; refine wpList_append_run rfl (.tmp 88) (.tmp 93) 29 rfl _ _ _ rfl rfl hr ?_)
          clear hr p0 p1 p2 p3 p4 p5 p6 p7
          go_roundw
          case rel => exact ⟨m + 1, now ++ [x] ++ [y], true, rfl, by simp, by have := HM.out; omega, (HINS.out.put HL.out.2.2.1 HY.out.1 Hhgt.out).stay HL.out.2.2.1 HY.out.1 (fun h => by cases h), R6.out, Q6.out⟩
          case measure => have := HM.out; simp [intOf]; omega
        ·have hne : x.1 < y.1 := HINS.out.yet rfl m y (Nat.le_refl _) HY.out.1
         replace HEQ := hid (HEQ.out.trans (decide_eq_false (by omega)))
         clear hne
         go_wp2_with fail
         refine wp_region_quietL (C := Grows wr) hmx (by kernel_rfl) (grows_refl wr) ?_
         repeat (go_big_quiet_step (fail))
         refine wpQuiet_nil ?_
         rintro _ ⟨z1, rfl⟩
         have Q3 := hid (HQ2.out.trans (z1.below.mono HQ2.out.size))
         have R3 := hid (HR2.out.later z1.below)
         try clear ky0 kx0 ky1 kx1 ky2 kx2 ky3 kx3
         try clear hEQ
         go_wp2_with fail
         have ky0 := fun z : Ext z1.w => (HCY.out z.w (Q3.out.trans (z.below.mono Q3.out.size))).1
         have kx0 : ∀ z : Ext z1.w, z.w.cell? ⟨B7, 0, none⟩ = some (.int .u64 (lim x.1 0)) := fun z => (HCX.out z.w (Q3.out.trans (z.below.mono Q3.out.size))).cell 0 _ rfl
         have ky1 := fun z : Ext z1.w => (HCY.out z.w (Q3.out.trans (z.below.mono Q3.out.size))).2.1
         have kx1 : ∀ z : Ext z1.w, z.w.cell? ⟨B7, 1, none⟩ = some (.int .u64 (lim x.1 1)) := fun z => (HCX.out z.w (Q3.out.trans (z.below.mono Q3.out.size))).cell 1 _ rfl
         have ky2 := fun z : Ext z1.w => (HCY.out z.w (Q3.out.trans (z.below.mono Q3.out.size))).2.2.1
         have kx2 : ∀ z : Ext z1.w, z.w.cell? ⟨B7, 2, none⟩ = some (.int .u64 (lim x.1 2)) := fun z => (HCX.out z.w (Q3.out.trans (z.below.mono Q3.out.size))).cell 2 _ rfl
         have ky3 := fun z : Ext z1.w => (HCY.out z.w (Q3.out.trans (z.below.mono Q3.out.size))).2.2.2.1
         have kx3 : ∀ z : Ext z1.w, z.w.cell? ⟨B7, 3, none⟩ = some (.int .u64 (lim x.1 3)) := fun z => (HCX.out z.w (Q3.out.trans (z.below.mono Q3.out.size))).cell 3 _ rfl
         have hEQ := HEQ.out
         refine wp_region_quietL (C := Grows z1.w) hmx (by kernel_rfl) (grows_refl z1.w) ?_
         repeat (go_big_quiet_step (fail))
         refine wpQuiet_nil ?_
         rintro _ ⟨z2, rfl⟩
         have Q4 := hid (Q3.out.trans (z2.below.mono Q3.out.size))
         have R4 := hid (R3.out.later z2.below)
         try clear ky0 kx0 ky1 kx1 ky2 kx2 ky3 kx3
         try clear hEQ
         have p0 := (HCY.out z2.w Q4.out).1
         have p1 := (HCY.out z2.w Q4.out).2.1
         have p2 := (HCY.out z2.w Q4.out).2.2.1
         have p3 := (HCY.out z2.w Q4.out).2.2.2.1
         have p4 := (HCY.out z2.w Q4.out).2.2.2.2.1
         have p5 := (HCY.out z2.w Q4.out).2.2.2.2.2.1
         have p6 := (HCY.out z2.w Q4.out).2.2.2.2.2.2.1
         have p7 := (HCY.out z2.w Q4.out).2.2.2.2.2.2.2
         obtain ⟨v5, W5, hr0, hrw, hbw⟩ := push_slot z2.w w1.heap.size (u8) now R4.out Q4.out.size (by have := hnl.out; (try simp only [List.length_append, List.length_cons, List.length_nil]); omega) y
         have hr : (Builtin.append_ #[29, 29] 29 #[u8, .slice (some ⟨z2.w.heap.size, 0, none⟩) 1 1]).run Tryz.prog (z2.w.alloc (.cells #[.int .u64 (lim y.1 0), .int .u64 (lim y.1 1), .int .u64 (lim y.1 2), .int .u64 (lim y.1 3), .int .u64 (lim y.2 0), .int .u64 (lim y.2 1), .int .u64 (lim y.2 2), .int .u64 (lim y.2 3)] 63)) = .ok v5 W5 := hr0
         have R5 := hid hrw
         have Q5 := hid (Q4.out.trans hbw)
         clear hr0 hrw hbw
         go_wp2_with (at_builtin; refine wpList_append_run rfl (.tmp 88) (.tmp 93) 29 rfl _ _ _ rfl rfl hr ?_)
         clear hr p0 p1 p2 p3 p4 p5 p6 p7
         go_roundw
         case rel => exact ⟨m + 1, now ++ [y], true, rfl, by simp, by have := HM.out; omega, HINS.out.stay HL.out.2.2.1 HY.out.1 (fun h => by cases h), R5.out, Q5.out⟩
         case measure => have := HM.out; simp [intOf]; omega
       ·have hmI : ¬ (m : Int) < (L : Int) := by omega
        have hmE : m = L := by omega
        rcases done with _ | _
        ·subst hmE
         have hnl := hid (show now.length ≤ 100 from by have h := HINS.out.len; have := HL.out.2.1; have := HLL.out; have := hkk.out; split at h <;> omega)
         have HCX := hid (fun (X : World) (hX : Below w1.heap.size w1 X) => HBX2.out.later hX)
         have hkb : (k : Int) ≤ 9223372036854775806 := by have := hkk.out; omega
         have hE := hid (show Rise (now ++ [x]) ∧ (now ++ [x]).length ≤ l.length + 1 ∧ ∀ y ∈ now ++ [x], y = x ∨ y ∈ l from by have h := HINS.out; rw [← HLL.out] at h; exact h.end')
         have p0 : wr.cell? ⟨B7, 0, none⟩ = some (.int .u64 (lim x.1 0)) := (HCX.out wr HQ2.out).cell 0 _ rfl
         have p1 : wr.cell? ⟨B7, 1, none⟩ = some (.int .u64 (lim x.1 1)) := (HCX.out wr HQ2.out).cell 1 _ rfl
         have p2 : wr.cell? ⟨B7, 2, none⟩ = some (.int .u64 (lim x.1 2)) := (HCX.out wr HQ2.out).cell 2 _ rfl
         have p3 : wr.cell? ⟨B7, 3, none⟩ = some (.int .u64 (lim x.1 3)) := (HCX.out wr HQ2.out).cell 3 _ rfl
         have p4 : wr.cell? ⟨B7, 4, none⟩ = some (.int .u64 (lim x.2 0)) := (HCX.out wr HQ2.out).cell 4 _ rfl
         have p5 : wr.cell? ⟨B7, 5, none⟩ = some (.int .u64 (lim x.2 1)) := (HCX.out wr HQ2.out).cell 5 _ rfl
         have p6 : wr.cell? ⟨B7, 6, none⟩ = some (.int .u64 (lim x.2 2)) := (HCX.out wr HQ2.out).cell 6 _ rfl
         have p7 : wr.cell? ⟨B7, 7, none⟩ = some (.int .u64 (lim x.2 3)) := (HCX.out wr HQ2.out).cell 7 _ rfl
         obtain ⟨v4, W4, hr0, hrw, hbw⟩ := push_slot wr w1.heap.size (u8) now HR2.out HQ2.out.size (by have := hnl.out; (try simp only [List.length_append, List.length_cons, List.length_nil]); omega) x
         have hr : (Builtin.append_ #[29, 29] 29 #[u8, .slice (some ⟨wr.heap.size, 0, none⟩) 1 1]).run Tryz.prog (wr.alloc (.cells #[.int .u64 (lim x.1 0), .int .u64 (lim x.1 1), .int .u64 (lim x.1 2), .int .u64 (lim x.1 3), .int .u64 (lim x.2 0), .int .u64 (lim x.2 1), .int .u64 (lim x.2 2), .int .u64 (lim x.2 3)] 63)) = .ok v4 W4 := hr0
         have R4 := hid hrw
         have Q4 := hid (HQ2.out.trans hbw)
         clear hr0 hrw hbw
         have NX := hid (show (k + 1 ≤ n ∧ k + 1 ≤ 20) ∧ (now ++ [x]).length ≤ k + 1 ∧ RowT W4 W.heap.size v4 (now ++ [x]) ∧ Rise (now ++ [x]) ∧ (∀ z ∈ now ++ [x], W256 z.1 ∧ W256 z.2) ∧ (nt = false → ∀ z ∈ now ++ [x], z.2 ≠ 0) ∧ Below W.heap.size W W4 from ⟨by have := hkk.out; omega, by have := hE.out.2.1; have := HL.out.2.1; have := HLL.out; omega, R4.out.lower (Nat.le_trans HQ.out.size HQX2.out.size), hE.out.1, fun z hz => by
          rcases hE.out.2.2 z hz with rfl | h
          ·exact HX.out.1
          ·exact HL.out.2.2.2.1 z h, fun h0 z hz => by
          rcases hE.out.2.2 z hz with rfl | h
          ·exact HX.out.2 h0
          ·exact HL.out.2.2.2.2 h0 z h, HQ.out.trans ((HQX2.out.trans (Q4.out.mono HQX2.out.size)).mono HQ.out.size)⟩)
         go_wp2_with (at_builtin; refine wpList_append_run rfl (.tmp 97) (.tmp 99) 29 rfl _ _ _ rfl rfl hr ?_)
         go_roundw
         case rel => exact ⟨k + 1, now ++ [x], by simp, NX.out.1.1, NX.out.1.2, NX.out.2⟩
         case measure => have := hkk.out; simp [intOf]; omega
        ·subst hmE
         have hnl := hid (show now.length ≤ 100 from by have h := HINS.out.len; have := HL.out.2.1; have := HLL.out; have := hkk.out; split at h <;> omega)
         have HCX := hid (fun (X : World) (hX : Below w1.heap.size w1 X) => HBX2.out.later hX)
         have hkb : (k : Int) ≤ 9223372036854775806 := by have := hkk.out; omega
         have hE := hid (show Rise now ∧ now.length ≤ l.length + 1 ∧ ∀ y ∈ now, y = x ∨ y ∈ l from by have h := HINS.out; rw [← HLL.out] at h; exact h.endT)
         have NX := hid (show (k + 1 ≤ n ∧ k + 1 ≤ 20) ∧ (now).length ≤ k + 1 ∧ RowT wr W.heap.size u8 (now) ∧ Rise (now) ∧ (∀ z ∈ now, W256 z.1 ∧ W256 z.2) ∧ (nt = false → ∀ z ∈ now, z.2 ≠ 0) ∧ Below W.heap.size W wr from ⟨by have := hkk.out; omega, by have := hE.out.2.1; have := HL.out.2.1; have := HLL.out; omega, HR2.out.lower (Nat.le_trans HQ.out.size HQX2.out.size), hE.out.1, fun z hz => by
          rcases hE.out.2.2 z hz with rfl | h
          ·exact HX.out.1
          ·exact HL.out.2.2.2.1 z h, fun h0 z hz => by
          rcases hE.out.2.2 z hz with rfl | h
          ·exact HX.out.2 h0
          ·exact HL.out.2.2.2.2 h0 z h, HQ.out.trans ((HQX2.out.trans (HQ2.out.mono HQX2.out.size)).mono HQ.out.size)⟩)
         go_wp2_with fail
         go_roundw
         case rel => exact ⟨k + 1, now, by simp, NX.out.1.1, NX.out.1.2, NX.out.2⟩
         case measure => have := hkk.out; simp [intOf]; omega
  ·have hcut20 := hid (show l.length ≤ 20 from by have := HL.out.2.1; omega)
   have FIN := hid (show SlotsP W nt (.returned u5) w0 from ⟨u5, l, rfl, HROW.out, HL.out.2.2.1, HL.out.2.2.2.1, hcut20.out, HL.out.2.2.2.2, HQ.out⟩)
   by_cases hkl : k < n
   ·have hknI : (k : Int) < (n : Int) := by omega
    have hk20I : ¬ (k : Int) < 20 := by omega
    clear hk
    go_wp2_with fail
    go_ret
    exact FIN.out
   ·have hknI : ¬ (k : Int) < (n : Int) := by omega
    clear hk
    go_wp2_with fail
    go_ret
    exact FIN.out
end Go.Proofs.YtkicmbdjihjgfaaGreatDoor
