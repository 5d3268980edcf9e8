import Derived.Test.YtadfkiebblmfkaaGreatDoorS21
/- Package state: alike. Conditions: the accounts' slots lie in memory. -/
namespace Go.Proofs.YtadfkiebblmfkaaGreatDoor
open Go Go.RowKit
attribute [local go_sem] Oper.semAt_some Grows wide_fn eq4

noncomputable def sameA (x y : Ac) : Bool := @decide (x = y) (Classical.propDecidable _)
theorem sameA_true {x y : Ac} (h : x = y) : sameA x y = true := by unfold sameA; exact @decide_eq_true _ (Classical.propDecidable _) h
theorem sameA_false {x y : Ac} (h : x ≠ y) : sameA x y = false := by unfold sameA; exact @decide_eq_false _ (Classical.propDecidable _) h
theorem same_code (a b : ByteArray) : (a.toList == b.toList) = true ↔ a = b := by
  rw [beq_iff_eq, ByteArray.toList_eq, ByteArray.toList_eq]
  constructor
  · intro h
    exact ByteArray.ext (Array.ext' h)
  · rintro rfl; rfl
set_option maxRecDepth 100000 in
set_option maxHeartbeats 4000000 in
theorem alike_any (W : World) (x y : Ac) (sx sy : Value) (hx : AcOk x) (hy : AcOk y) (hsx : SlotsAt W sx x.slots) (hsy : SlotsAt W sy y.slots) :
    Calls Tryz.prog 37 #[.agg (acC x sx), .agg (acC y sy)] W fun e w' => e = .returned (.bool (sameA x y)) ∧ Below W.heap.size W w' := by
  obtain ⟨a1, c1, rfl, _, _⟩ := hsx.shape
  obtain ⟨a2, c2, rfl, _, _⟩ := hsy.shape
  obtain ⟨cx, hcx⟩ : ∃ cx, acC x (.slice a1 x.slots.length c1) = cx := ⟨_, rfl⟩
  obtain ⟨cy, hcy⟩ : ∃ cy, acC y (.slice a2 y.slots.length c2) = cy := ⟨_, rfl⟩
  rw [hcx, hcy]
  have h10 := Has.new W 31 cx
  have q1 := (Below.refl W.heap.size W).alloc (Nat.le_refl _) (.cells cx 31)
  obtain ⟨W1, hW1⟩ : ∃ W1, W.alloc (.cells cx 31) = W1 := ⟨_, rfl⟩
  rw [hW1] at h10 q1
  have h21 := Has.new W1 31 cy
  have q2 := (Below.refl W1.heap.size W1).alloc (Nat.le_refl _) (.cells cy 31)
  obtain ⟨W2, hW2⟩ : ∃ W2, W1.alloc (.cells cy 31) = W2 := ⟨_, rfl⟩
  rw [hW2] at h21 q2
  have HX := (show Has W2 W.heap.size 31 (acC x (.slice a1 x.slots.length c1)) by rw [hcx]; exact h10.later q2)
  have HY := (show Has W2 W1.heap.size 31 (acC y (.slice a2 y.slots.length c2)) by rw [hcy]; exact h21)
  have Q2 := Lib.hid (q1.trans (q2.mono q1.size))
  have HEQ := Lib.hid (equal_slots W2 _ _ x.slots y.slots (hsx.later Q2.out) (hsy.later Q2.out))
  have hax := HX.accAdLoad
  have hay := HY.accAdLoad
  obtain ⟨x20, x21, x22, x23, x24, x25, x26⟩ := HX.acc
  obtain ⟨y20, y21, y22, y23, y24, y25, y26⟩ := HY.acc
  have he := fun X => eq20 x.at_ y.at_ hx.at_ hy.at_ X
  have hw := eqv_w x.bal y.bal hx.bal hy.bal
  have hcode := same_code x.code y.code
  have HT := Lib.hid (fun (h1 : x.at_ = y.at_) (h2 : x.bal = y.bal) (h3 : x.non = y.non) (h4 : x.code = y.code) (h5 : x.slots = y.slots) => sameA_true (show x = y by cases x; cases y; simp_all))
  have HN := Lib.hid (fun (h : x ≠ y) => sameA_false h)
  have N1 := Lib.hid (fun (h : ¬ x.at_ = y.at_) => sameA_false (show x ≠ y from fun e => h (by rw [e])))
  have N2 := Lib.hid (fun (h : ¬ x.bal = y.bal) => sameA_false (show x ≠ y from fun e => h (by rw [e])))
  have N3 := Lib.hid (fun (h : ¬ x.non = y.non) => sameA_false (show x ≠ y from fun e => h (by rw [e])))
  have N4 := Lib.hid (fun (h : ¬ x.code = y.code) => sameA_false (show x ≠ y from fun e => h (by rw [e])))
  have N5 := Lib.hid (fun (h : ¬ x.slots = y.slots) => sameA_false (show x ≠ y from fun e => h (by rw [e])))
  obtain ⟨res, hres⟩ : ∃ res, sameA x y = res := ⟨_, rfl⟩
  rw [hres] at HT HN N1 N2 N3 N4 N5
  rw [hres]
  clear HN HX HY hcx hcy h10 h21 q1 q2 hx hy hsx hsy hres
  generalize adC x.at_ = ax at *
  generalize adC y.at_ = ay at *
  generalize lim x.bal 0 = l0 at *
  generalize lim x.bal 1 = l1 at *
  generalize lim x.bal 2 = l2 at *
  generalize lim x.bal 3 = l3 at *
  generalize lim y.bal 0 = m0 at *
  generalize lim y.bal 1 = m1 at *
  generalize lim y.bal 2 = m2 at *
  generalize lim y.bal 3 = m3 at *
  replace hcode := Lib.hid hcode
  by_cases h1 : x.at_ = y.at_
  · rw [decide_eq_true h1] at he
    have H1 := Lib.hid h1
    clear h1 N1
    by_cases h2 : x.bal = y.bal
    · rw [decide_eq_true h2] at hw
      have H2 := Lib.hid h2
      clear h2 N2
      by_cases h3 : x.non = y.non
      · have h3I : (x.non == y.non) = true := by simp [h3]
        have H3 := Lib.hid h3
        clear h3 N3
        generalize x.non = n1 at *
        generalize y.non = n2 at *
        by_cases h4 : x.code = y.code
        · have h4I : (x.code.toList == y.code.toList) = true := hcode.out.2 h4
          have H4 := Lib.hid h4
          clear h4 N4
          generalize x.code = d1 at *
          generalize y.code = d2 at *
          generalize x.slots.length = k1 at *
          generalize y.slots.length = k2 at *
          go_enter Tryz.func37, Tryz.ntmps37
          go_wp2_with (first | (refine wpList_load_known rfl _ (.tmp 5) rfl _ rfl _ hax ?_) | (refine wpList_load_known rfl _ (.tmp 7) rfl _ rfl _ hay ?_))
          refine HEQ.out.mono ?_
          rintro _ w3 ⟨rfl, q3⟩
          have Q3 := Lib.hid (Q2.out.trans (q3.mono Q2.out.size))
          by_cases h5 : x.slots = y.slots
          · have E := Lib.hid (HT.out H1.out H2.out H3.out H4.out h5)
            rw [decide_eq_true h5]
            clear h5 q3 HEQ hW1 hW2
            go_wp2_with fail
            go_ret
            exact ⟨by rw [E.out]; rfl, Q3.out⟩
          · have E := Lib.hid (N5.out h5)
            rw [decide_eq_false h5]
            clear h5 q3 HEQ hW1 hW2
            go_wp2_with fail
            go_ret
            exact ⟨by rw [E.out]; rfl, Q3.out⟩
        · have h4I : (x.code.toList == y.code.toList) = false := by
            cases hb : (x.code.toList == y.code.toList) with
            | false => rfl
            | true => exact absurd (hcode.out.1 hb) h4
          have E := Lib.hid (N4.out h4)
          clear h4 N4
          generalize x.code = d1 at *
          generalize y.code = d2 at *
          generalize x.slots.length = k1 at *
          generalize y.slots.length = k2 at *
          go_enter Tryz.func37, Tryz.ntmps37
          go_wp2_with (first | (refine wpList_load_known rfl _ (.tmp 5) rfl _ rfl _ hax ?_) | (refine wpList_load_known rfl _ (.tmp 7) rfl _ rfl _ hay ?_))
          go_ret
          exact ⟨by rw [E.out]; rfl, Q2.out⟩
      · have h3I : (x.non == y.non) = false := by simpa using h3
        have E := Lib.hid (N3.out h3)
        clear h3 N3
        generalize x.non = n1 at *
        generalize y.non = n2 at *
        go_enter Tryz.func37, Tryz.ntmps37
        go_wp2_with (first | (refine wpList_load_known rfl _ (.tmp 5) rfl _ rfl _ hax ?_) | (refine wpList_load_known rfl _ (.tmp 7) rfl _ rfl _ hay ?_))
        go_ret
        exact ⟨by rw [E.out]; rfl, Q2.out⟩
    · rw [decide_eq_false h2] at hw
      have E := Lib.hid (N2.out h2)
      clear h2 N2
      go_enter Tryz.func37, Tryz.ntmps37
      go_wp2_with (first | (refine wpList_load_known rfl _ (.tmp 5) rfl _ rfl _ hax ?_) | (refine wpList_load_known rfl _ (.tmp 7) rfl _ rfl _ hay ?_))
      go_ret
      exact ⟨by rw [E.out]; rfl, Q2.out⟩
  · rw [decide_eq_false h1] at he
    have E := Lib.hid (N1.out h1)
    clear h1 N1
    go_enter Tryz.func37, Tryz.ntmps37
    go_wp2_with (first | (refine wpList_load_known rfl _ (.tmp 5) rfl _ rfl _ hax ?_) | (refine wpList_load_known rfl _ (.tmp 7) rfl _ rfl _ hay ?_))
    go_ret
    exact ⟨by rw [E.out]; rfl, Q2.out⟩
end Go.Proofs.YtadfkiebblmfkaaGreatDoor
