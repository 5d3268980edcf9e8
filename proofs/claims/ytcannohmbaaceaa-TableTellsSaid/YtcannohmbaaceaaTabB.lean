/- Patch, Right and Get. Conditions: the slots lie in memory. -/
import Derived.Test.YtcannohmbaaceaaTabA
namespace Go.Proofs.Ytcannohmbaaceaa
open Go Go.RowKit
attribute [local go_sem] Oper.semAt_some Grows wide_fn eq4

theorem eqv_w (a b : Nat) (ha : W256 a) (hb : W256 b) : (lim a 0 == lim b 0 && lim a 1 == lim b 1 && lim a 2 == lim b 2 && lim a 3 == lim b 3) = decide (a = b) := by
  by_cases h : a = b
  · subst h; simp
  · rw [decide_eq_false h]
    refine Bool.eq_false_iff.2 fun e => h ?_
    simp only [Bool.and_eq_true, beq_iff_eq] at e
    exact lim_ext ha hb fun k hk => by
      obtain rfl | rfl | rfl | rfl : k = 0 ∨ k = 1 ∨ k = 2 ∨ k = 3 := by omega
      · exact e.1.1.1
      · exact e.1.1.2
      · exact e.1.2
      · exact e.2
theorem zero_w (a : Nat) (ha : W256 a) : (lim a 0 == 0 && lim a 1 == 0 && lim a 2 == 0 && lim a 3 == 0) = decide (a = 0) := by
  have h := eqv_w a 0 ha (by unfold W256; omega)
  simpa only [lim_zero] using h
/-- Is there a slot that keeps 0? -/
def HasZ (l : List Sl) : Prop := ∃ x ∈ l, x.2 = 0
noncomputable def patchB (l : List Sl) : Bool := decide (l.length ≤ 1000) && riseB l
noncomputable def rightB' (l : List Sl) : Bool := patchB l && l.all (fun x => decide (x.2 ≠ 0))
theorem patchB_iff (l : List Sl) : patchB l = true ↔ l.length ≤ 1000 ∧ Rise l := by unfold patchB; rw [Bool.and_eq_true, decide_eq_true_eq, riseB_iff]
theorem rightB_iff' (l : List Sl) : rightB' l = true ↔ l.length ≤ 1000 ∧ Kept l := by
  unfold rightB' Kept
  rw [Bool.and_eq_true, patchB_iff, List.all_eq_true]
  simp only [decide_eq_true_eq]
  exact ⟨fun ⟨⟨h1, h2⟩, h3⟩ => ⟨h1, h2, h3⟩, fun ⟨h1, h2, h3⟩ => ⟨⟨h1, h2⟩, h3⟩⟩

set_option maxRecDepth 100000 in
set_option maxHeartbeats 1000000 in
theorem patch_any (W : World) (sv : Value) (l : List Sl) (hs : SlotsAt W sv l) :
    Calls Try.prog 11 #[sv] W fun e w' => e = .returned (.bool (patchB l)) ∧ Below W.heap.size W w' := by
  obtain ⟨a, cap, hsv, hnc, hcm⟩ := hs.shape
  have HS := Lib.hid hs
  have HP := Lib.hid (show patchB l = (decide (l.length ≤ 1000) && riseB l) from rfl)
  have H1 := Lib.hid (slots_any W sv l hs)
  have H2 := Lib.hid (fun (W1 : World) (B : Nat) (hB : Has W1 B 22 #[sv]) (h : SlotsAt W1 sv l) => rises_any W1 B sv l hB h)
  subst hsv
  generalize riseB l = rb at *
  generalize patchB l = pb at *
  generalize hn : l.length = n at *
  clear hn hs hnc hcm
  by_cases h : n ≤ 1000
  · have hI : (n : Int) ≤ 1000 := by omega
    go_enter Try.func11, Try.ntmps11
    go_wp2_with fail
    refine H1.out.mono ?_
    rintro _ W1 ⟨B, rfl, hB, hH, q1⟩
    have H3 := Lib.hid (H2.out W1 B hH (HS.out.later q1))
    have Q := Lib.hid q1
    clear hB hH q1 H1 H2 HS
    go_wp2_with fail
    refine H3.out.mono ?_
    rintro _ W2 ⟨rfl, q2⟩
    have Q2 := Lib.hid (Q.out.trans (q2.mono Q.out.size))
    clear q2 H3 Q
    have HE := Lib.hid (show pb = rb by rw [HP.out, decide_eq_true h, Bool.true_and])
    clear HP h hI
    go_wp2_with fail
    go_ret
    exact ⟨by rw [HE.out]; rfl, Q2.out⟩
  · have hI : ¬ (n : Int) ≤ 1000 := by omega
    have HE := Lib.hid (show pb = false by rw [HP.out, decide_eq_false h, Bool.false_and])
    clear HP h
    go_enter Try.func11, Try.ntmps11
    go_wp2_with fail
    go_ret
    exact ⟨by rw [HE.out]; rfl, Below.refl _ _⟩

set_option maxRecDepth 100000 in
set_option maxHeartbeats 1000000 in
theorem void_any (W : World) (x : Sl) (hx : W256 x.2) :
    Calls Try.prog 25 #[slV x] W fun e w' => e = .returned (.bool (decide (x.2 = 0))) ∧ Below W.heap.size W w' := by
  have hz := zero_w x.2 hx
  obtain ⟨k, v⟩ := x
  simp only at hz hx ⊢
  generalize decide (v = 0) = z at *
  unfold slV
  simp only
  generalize lim k 0 = a0 at *
  generalize lim k 1 = a1 at *
  generalize lim k 2 = a2 at *
  generalize lim k 3 = a3 at *
  generalize lim v 0 = b0 at *
  generalize lim v 1 = b1 at *
  generalize lim v 2 = b2 at *
  generalize lim v 3 = b3 at *
  clear hx
  have N := Has.new W 31 #[.int .u64 a0, .int .u64 a1, .int .u64 a2, .int .u64 a3, .int .u64 b0, .int .u64 b1, .int .u64 b2, .int .u64 b3]
  have q := (Below.refl W.heap.size W).alloc (Nat.le_refl _) (.cells #[.int .u64 a0, .int .u64 a1, .int .u64 a2, .int .u64 a3, .int .u64 b0, .int .u64 b1, .int .u64 b2, .int .u64 b3] 31)
  have c4 := N.cell 4 _ rfl
  have c5 := N.cell 5 _ rfl
  have c6 := N.cell 6 _ rfl
  have c7 := N.cell 7 _ rfl
  replace N := Lib.hid N
  replace q := Lib.hid q
  replace hz := Lib.hid hz
  go_enter Try.func25, Try.ntmps25
  go_wp2_with fail
  go_ret
  exact ⟨by rw [← hz.out]; rfl, q.out⟩
theorem void_at (W : World) (x : Sl) (hx : W256 x.2) : Calls Try.prog 25 #[slV x] W fun e w' => e = .returned (.bool (decide (x.2 = 0))) ∧ Below W.heap.size W w' := void_any W x hx

set_option maxRecDepth 100000 in
set_option maxHeartbeats 2000000 in
theorem index_any (W : World) (sv : Value) (l : List Sl) (hs : SlotsAt W sv l) :
    Calls Try.prog 32 #[sv, .func (.func 25) #[] #[]] W fun e w' => ∃ r : Int, e = .returned (.int .i64 r) ∧ (0 ≤ r ↔ HasZ l) ∧ Below W.heap.size W w' := by
  obtain ⟨a, cap, rfl, hnc, hcm⟩ := hs.shape
  have HS := Lib.hid hs
  obtain ⟨n, hn⟩ : ∃ n, l.length = n := ⟨_, rfl⟩
  rw [hn] at HS hnc ⊢
  have HN := Lib.hid hn
  have hlc := Lib.hid (Nat.le_trans hnc hcm)
  clear hs hnc hcm hn
  go_enter Try.func32, Try.ntmps32
  go_wp2_with fail
  go_loopw [8] (fun i wr => ∃ k : Nat, k ≤ n ∧ i = .int .i64 (k : Int) ∧ (∀ (j : Nat) (x : Sl), j < k → l[j]? = some x → x.2 ≠ 0) ∧ Below W.heap.size W wr) (fun i _ => n - (intOf i).toNat)
  case atStart => exact ⟨0, by omega, rfl, fun j x h => absurd h (by omega), Below.refl _ _⟩
  case round =>
    obtain ⟨k, hk, rfl, hlt, hq⟩ := hrel
    have HLT := Lib.hid hlt
    have HQ := Lib.hid hq
    clear hlt hq
    by_cases hkn : k < n
    · have hknI : (k : Int) < (n : Int) := by omega
      have hk0 : (0 : Int) ≤ (k : Int) := by omega
      have hkb : (k : Int) ≤ 9223372036854775806 := by have := hlc.out; omega
      obtain ⟨x, hx⟩ : ∃ x, l[k]? = some x := ⟨_, List.getElem?_eq_getElem (by have := HN.out; omega)⟩
      obtain ⟨b, rfl, c0, c1, c2, c3, c4, c5, c6, c7⟩ := (HS.out.later HQ.out).at hx
      have wx := HS.out.wide hx
      have HV := Lib.hid (fun (X : World) => void_any X x wx.2)
      have HK := Lib.hid hkn
      have HX := Lib.hid hx
      clear hkn hx wx hk
      unfold slV at HV
      generalize lim x.1 0 = a0 at *
      generalize lim x.1 1 = a1 at *
      generalize lim x.1 2 = a2 at *
      generalize lim x.1 3 = a3 at *
      generalize lim x.2 0 = b0 at *
      generalize lim x.2 1 = b1 at *
      generalize lim x.2 2 = b2 at *
      generalize lim x.2 3 = b3 at *
      go_wp2_with fail
      refine (HV.out _).mono ?_
      rintro _ W2 ⟨rfl, q2⟩
      have HE := Lib.hid (HQ.out.trans (q2.mono HQ.out.size))
      clear q2 HV c0 c1 c2 c3 c4 c5 c6 c7
      by_cases hz : x.2 = 0
      · have hzb : decide (x.2 = 0) = true := decide_eq_true hz
        have HR := Lib.hid (show 0 ≤ (k : Int) ↔ HasZ l from ⟨fun _ => ⟨x, List.mem_of_getElem? HX.out, hz⟩, fun _ => hk0⟩)
        rw [hzb]
        clear hz hzb
        go_wp2_with fail
        go_ret
        exact ⟨_, rfl, HR.out, HE.out⟩
      · have hzb : decide (x.2 = 0) = false := decide_eq_false hz
        rw [hzb]
        have HZ := Lib.hid hz
        clear hz hzb
        go_wp2_with fail
        go_roundw
        case rel => exact ⟨k + 1, by have := HK.out; omega, by simp, fun j y hj hy => by
          by_cases hjk : j < k
          · exact HLT.out j y hjk hy
          · obtain rfl : j = k := by omega
            rw [HX.out] at hy
            injection hy with hy
            subst hy
            exact HZ.out, HE.out⟩
        case measure => have := HK.out; simp [intOf]; omega
    · have hknI : ¬ (k : Int) < (n : Int) := by omega
      have HR := Lib.hid (show 0 ≤ (-1 : Int) ↔ HasZ l from ⟨fun h => absurd h (by omega), fun ⟨x, hx, hz⟩ => by
        obtain ⟨j, hj⟩ := List.getElem?_of_mem hx
        have := (List.getElem?_eq_some_iff.1 hj).1
        exact absurd hz (HLT.out j x (by have := HN.out; omega) hj)⟩)
      go_wp2_with fail
      go_ret
      exact ⟨_, rfl, HR.out, HQ.out⟩

set_option maxRecDepth 100000 in
set_option maxHeartbeats 1000000 in
theorem contains_any (W : World) (sv : Value) (l : List Sl) (hs : SlotsAt W sv l) :
    Calls Try.prog 24 #[sv, .func (.func 25) #[] #[]] W fun e w' => e = .returned (.bool (!l.all (fun x => decide (x.2 ≠ 0)))) ∧ Below W.heap.size W w' := by
  have H := Lib.hid (index_any W sv l hs)
  clear hs
  go_enter Try.func24, Try.ntmps24
  go_wp2_with fail
  refine H.out.mono ?_
  rintro _ W1 ⟨r, rfl, hr, q⟩
  have HE := Lib.hid (show (!l.all (fun x => decide (x.2 ≠ 0))) = decide (0 ≤ r) by
    rw [Bool.eq_iff_iff, decide_eq_true_eq, hr]
    unfold HasZ
    simp)
  have Q := Lib.hid q
  clear hr q H
  go_wp2_with fail
  go_ret
  exact ⟨by rw [HE.out]; rfl, Q.out⟩

set_option maxRecDepth 100000 in
set_option maxHeartbeats 1000000 in
theorem right_slots (W : World) (sv : Value) (l : List Sl) (hs : SlotsAt W sv l) :
    Calls Try.prog 9 #[sv] W fun e w' => e = .returned (.bool (rightB' l)) ∧ Below W.heap.size W w' := by
  have H1 := Lib.hid (patch_any W sv l hs)
  have H2 := Lib.hid (fun (W1 : World) (h : SlotsAt W1 sv l) => contains_any W1 sv l h)
  have HS := Lib.hid hs
  have HR := Lib.hid (show rightB' l = (patchB l && l.all (fun x => decide (x.2 ≠ 0))) from rfl)
  generalize rightB' l = rb at *
  generalize patchB l = pb at *
  generalize l.all (fun x => decide (x.2 ≠ 0)) = ab at *
  clear hs
  go_enter Try.func9, Try.ntmps9
  go_wp2_with fail
  refine H1.out.mono ?_
  rintro _ W1 ⟨rfl, q1⟩
  have H3 := Lib.hid (H2.out W1 (HS.out.later q1))
  have Q := Lib.hid q1
  clear q1 H1 H2 HS
  cases pb
  · go_wp2_with fail
    go_ret
    exact ⟨by rw [HR.out]; rfl, Q.out⟩
  · go_wp2_with fail
    refine H3.out.mono ?_
    rintro _ W2 ⟨rfl, q2⟩
    have Q2 := Lib.hid (Q.out.trans (q2.mono Q.out.size))
    clear q2 H3 Q
    go_wp2_with fail
    go_ret
    exact ⟨by rw [HR.out]; cases ab <;> rfl, Q2.out⟩
end Go.Proofs.Ytcannohmbaaceaa
