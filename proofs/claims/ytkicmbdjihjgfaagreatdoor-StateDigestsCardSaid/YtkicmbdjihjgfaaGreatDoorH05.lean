/- Part. -/
import Derived.Laws.EntriesVeiled
import Derived.Test.YtkicmbdjihjgfaaGreatDoorH04
set_option maxRecDepth 100000
set_option maxHeartbeats 16000000
namespace Go.Proofs.YtkicmbdjihjgfaaGreatDoor
section
open Go Go.RowKit
attribute [local go_sem] Oper.semAt_some Grows wide_fn
theorem wrapIn (n : Int) (h : -9223372036854775808 ≤ n ∧ n ≤ 9223372036854775807) : wrap64 n = n := by unfold wrap64; omega
theorem key_at (W : World) (B : Nat) (sv : Value) (l : List Sl) (hB : Has W B 29 #[sv]) (hs : SlotsAt W sv l) (i : Nat) (x : Sl) (hx : l[i]? = some x) :
  Calls Tryz.prog 154 #[.int .i64 (i : Int), .pointer (some ⟨B, 0, none⟩)] W fun e w' => e = .returned (wv x.1) ∧ Below W.heap.size W w' := by
 obtain ⟨a, cap, rfl, hnc, hcm⟩ := hs.shape
 have q1 := newA W (.cells #[.int .u64 0, .int .u64 0, .int .u64 0, .int .u64 0] 28)
 obtain ⟨b, rfl, c0, c1, c2, c3, c4, c5, c6, c7⟩ := (hs.later q1).at hx
 have hi : i < l.length := (List.getElem?_eq_some_iff.1 hx).1
 have hiI : (i : Int) < (l.length : Int) := by omega
 have hi0 : (0 : Int) ≤ (i : Int) := by omega
 have k0 := (hB.later q1).cell 0 _ rfl
 have N0 := Has.new W 28 #[.int .u64 0, .int .u64 0, .int .u64 0, .int .u64 0]
 obtain ⟨W1, hW1⟩ : ∃ W1, W.alloc (.cells #[.int .u64 0, .int .u64 0, .int .u64 0, .int .u64 0] 28) = W1 := ⟨_, rfl⟩
 rw [hW1] at c0 c1 c2 c3 c4 c5 c6 c7 k0 N0 q1
 have f0 := N0.frozen 0
 have f1 := N0.frozen 1
 have f2 := N0.frozen 2
 have f3 := N0.frozen 3
 have x0 := N0.cell 0 _ rfl
 have x1 := N0.cell 1 _ rfl
 have x2 := N0.cell 2 _ rfl
 have x3 := N0.cell 3 _ rfl
 clear hs hB hnc hcm hx
 unfold wv
 obtain ⟨m, hm⟩ : ∃ m, lim x.1 = m := ⟨_, rfl⟩
 rw [hm] at c0 c1 c2 c3 ⊢
 have S := hid ((((N0.set 0 (.int .u64 (m 0))).set 1 (.int .u64 (m 1))).set 2 (.int .u64 (m 2))).set 3 (.int .u64 (m 3)))
 have Q := hid ((((q1.setCell (p := ⟨W.heap.size, 0, none⟩) (Nat.le_refl _) (.int .u64 (m 0))).setCell (p := ⟨W.heap.size, 1, none⟩) (Nat.le_refl _) (.int .u64 (m 1))).setCell (p := ⟨W.heap.size, 2, none⟩) (Nat.le_refl _) (.int .u64 (m 2))).setCell (p := ⟨W.heap.size, 3, none⟩) (Nat.le_refl _) (.int .u64 (m 3)))
 replace N0 := hid N0
 replace q1 := hid q1
 go_enter Tryz.func154, Tryz.ntmps154
 go_wp2_with fail
 refine bodyPost_ret (results_word (m := m) rfl rfl S.out) rfl ⟨rfl, Q.out⟩
theorem val_at (W : World) (B : Nat) (sv : Value) (l : List Sl) (hB : Has W B 29 #[sv]) (hs : SlotsAt W sv l) (i : Nat) (x : Sl) (hx : l[i]? = some x) :
  Calls Tryz.prog 155 #[.int .i64 (i : Int), .pointer (some ⟨B, 0, none⟩)] W fun e w' => e = .returned (wv x.2) ∧ Below W.heap.size W w' := by
 obtain ⟨a, cap, rfl, hnc, hcm⟩ := hs.shape
 have q1 := newA W (.cells #[.int .u64 0, .int .u64 0, .int .u64 0, .int .u64 0] 28)
 obtain ⟨b, rfl, c0, c1, c2, c3, c4, c5, c6, c7⟩ := (hs.later q1).at hx
 have hi : i < l.length := (List.getElem?_eq_some_iff.1 hx).1
 have hiI : (i : Int) < (l.length : Int) := by omega
 have hi0 : (0 : Int) ≤ (i : Int) := by omega
 have k0 := (hB.later q1).cell 0 _ rfl
 have N0 := Has.new W 28 #[.int .u64 0, .int .u64 0, .int .u64 0, .int .u64 0]
 obtain ⟨W1, hW1⟩ : ∃ W1, W.alloc (.cells #[.int .u64 0, .int .u64 0, .int .u64 0, .int .u64 0] 28) = W1 := ⟨_, rfl⟩
 rw [hW1] at c0 c1 c2 c3 c4 c5 c6 c7 k0 N0 q1
 have f0 := N0.frozen 0
 have f1 := N0.frozen 1
 have f2 := N0.frozen 2
 have f3 := N0.frozen 3
 have x0 := N0.cell 0 _ rfl
 have x1 := N0.cell 1 _ rfl
 have x2 := N0.cell 2 _ rfl
 have x3 := N0.cell 3 _ rfl
 clear hs hB hnc hcm hx
 unfold wv
 obtain ⟨m, hm⟩ : ∃ m, lim x.2 = m := ⟨_, rfl⟩
 rw [hm] at c4 c5 c6 c7 ⊢
 have S := hid ((((N0.set 0 (.int .u64 (m 0))).set 1 (.int .u64 (m 1))).set 2 (.int .u64 (m 2))).set 3 (.int .u64 (m 3)))
 have Q := hid ((((q1.setCell (p := ⟨W.heap.size, 0, none⟩) (Nat.le_refl _) (.int .u64 (m 0))).setCell (p := ⟨W.heap.size, 1, none⟩) (Nat.le_refl _) (.int .u64 (m 1))).setCell (p := ⟨W.heap.size, 2, none⟩) (Nat.le_refl _) (.int .u64 (m 2))).setCell (p := ⟨W.heap.size, 3, none⟩) (Nat.le_refl _) (.int .u64 (m 3)))
 replace N0 := hid N0
 replace q1 := hid q1
 go_enter Tryz.func155, Tryz.ntmps155
 go_wp2_with fail
 refine bodyPost_ret (results_word (m := m) rfl rfl S.out) rfl ⟨rfl, Q.out⟩
abbrev tabV (n : Nat) (B : Nat) : Value := .agg #[.int .i64 (n : Int), .func (.func 154) #[] #[.pointer (some ⟨B, 0, none⟩)], .func (.func 155) #[] #[.pointer (some ⟨B, 0, none⟩)], .func (.func 156) #[] #[]]
theorem slots_any (W : World) (sv : Value) (l : List Sl) (hs : SlotsAt W sv l) :
  Calls Tryz.prog 143 #[sv] W fun e w' => ∃ B, e = .returned (tabV l.length B) ∧ W.heap.size ≤ B ∧ Has w' B 29 #[sv] ∧ Below W.heap.size W w' := by
 obtain ⟨a, cap, rfl, hnc, hcm⟩ := hs.shape
 generalize l.length = n at *
 clear hs hnc hcm
 have L0 := (Has.new W 29 #[.slice a n cap]).alloc (.cells #[.int .i64 0, .nilFunc, .nilFunc, .nilFunc] 174)
 have N0 := Has.new (W.alloc (.cells #[.slice a n cap] 29)) 174 #[.int .i64 0, .nilFunc, .nilFunc, .nilFunc]
 simp only [World.size_alloc] at N0
 have Q := (newA W (.cells #[.slice a n cap] 29)).alloc (by simp) (.cells #[.int .i64 0, .nilFunc, .nilFunc, .nilFunc] 174)
 obtain ⟨W1, hW1⟩ : ∃ W1, (W.alloc (.cells #[.slice a n cap] 29)).alloc (.cells #[.int .i64 0, .nilFunc, .nilFunc, .nilFunc] 174) = W1 := ⟨_, rfl⟩
 rw [hW1] at L0 N0 Q
 have k0 := L0.cell 0 _ rfl
 have x0 := N0.cell 0 _ rfl
 have x1 := N0.cell 1 _ rfl
 have x2 := N0.cell 2 _ rfl
 have x3 := N0.cell 3 _ rfl
 have f0 := N0.frozen 0
 have f1 := N0.frozen 1
 have f2 := N0.frozen 2
 have f3 := N0.frozen 3
 have S := ((((N0.set 0 (.int .i64 (n : Int))).set 1 (.func (.func 154) #[] #[.pointer (some ⟨W.heap.size, 0, none⟩)])).set 2 (.func (.func 155) #[] #[.pointer (some ⟨W.heap.size, 0, none⟩)])).set 3 (.func (.func 156) #[] #[]))
 have z0 := hid (S.cell 0 _ rfl)
 have z1 := hid (S.cell 1 _ rfl)
 have z2 := hid (S.cell 2 _ rfl)
 have z3 := hid (S.cell 3 _ rfl)
 have HL := hid ((((L0.other (p := ⟨W.heap.size + 1, 0, none⟩) (by simp) (.int .i64 (n : Int))).other (p := ⟨W.heap.size + 1, 1, none⟩) (by simp) (.func (.func 154) #[] #[.pointer (some ⟨W.heap.size, 0, none⟩)])).other (p := ⟨W.heap.size + 1, 2, none⟩) (by simp) (.func (.func 155) #[] #[.pointer (some ⟨W.heap.size, 0, none⟩)])).other (p := ⟨W.heap.size + 1, 3, none⟩) (by simp) (.func (.func 156) #[] #[]))
 have HQ := hid ((((Q.setCell (p := ⟨W.heap.size + 1, 0, none⟩) (by simp) (.int .i64 (n : Int))).setCell (p := ⟨W.heap.size + 1, 1, none⟩) (by simp) (.func (.func 154) #[] #[.pointer (some ⟨W.heap.size, 0, none⟩)])).setCell (p := ⟨W.heap.size + 1, 2, none⟩) (by simp) (.func (.func 155) #[] #[.pointer (some ⟨W.heap.size, 0, none⟩)])).setCell (p := ⟨W.heap.size + 1, 3, none⟩) (by simp) (.func (.func 156) #[] #[]))
 clear S Q
 replace L0 := hid L0
 replace N0 := hid N0
 go_enter Tryz.func143, Tryz.ntmps143
 go_wp2_with fail
 replace z0 := z0.out
 replace z1 := z1.out
 replace z2 := z2.out
 replace z3 := z3.out
 refine bodyPost_ret (v := tabV n W.heap.size) (by simp [results, Tryz.results143, go_sem, z0, z1, z2, z3]) rfl ⟨W.heap.size, rfl, Nat.le_refl _, HL.out, HQ.out⟩
theorem Ext.at {W : World} {z : Ext W} {P : Program} {f : FuncId} {args : Array Value} {v : Value} (h : Calls P f args z.w fun e w' => e = .returned v ∧ Below z.w.heap.size z.w w') : Calls P f args z.w fun e w' => e = .returned v ∧ ∃ x : Ext W, w' = x.w :=
 h.mono fun _ w' ⟨h1, h2⟩ => ⟨h1, ⟨w', z.below.trans (h2.mono z.below.size)⟩, rfl⟩
noncomputable def riseB (l : List Sl) : Bool := @decide (Rise l) (Classical.propDecidable _)
theorem riseB_iff (l : List Sl) : riseB l = true ↔ Rise l := by unfold riseB; exact @decide_eq_true_iff _ (Classical.propDecidable _)
theorem riseB_false {l : List Sl} (h : ¬ Rise l) : riseB l = false := by
 rcases hb : riseB l with _ | _
 ·rfl
 ·exact absurd ((riseB_iff l).1 hb) h
theorem rise_at {l : List Sl} : Rise l ↔ ∀ (i : Nat) (x y : Sl), l[i]? = some x → l[i + 1]? = some y → x.1 < y.1 := by
 constructor
 ·intro h i x y hx hy
  have := List.pairwise_iff_getElem.1 h i (i + 1) (List.getElem?_eq_some_iff.1 hx).1 (List.getElem?_eq_some_iff.1 hy).1 (by omega)
  rw [(List.getElem?_eq_some_iff.1 hx).2, (List.getElem?_eq_some_iff.1 hy).2] at this
  exact this
 ·induction l with
  | nil => intro _; exact List.Pairwise.nil
  | cons x r ih =>
   intro h
   have hr := ih (fun i a b ha hb => h (i + 1) a b (by simpa using ha) (by simpa using hb))
   refine List.pairwise_cons.2 ⟨fun y hy => ?_, hr⟩
   cases r with
   | nil => cases hy
   | cons z r =>
    have hz := h 0 x z rfl rfl
    rcases List.mem_cons.1 hy with rfl | hy
    ·exact hz
    ·have := (List.pairwise_cons.1 hr).1 y hy
     omega
theorem wcmp_ge (a b : Nat) : (0 ≤ wcmp a b ↔ b ≤ a) := by
 unfold wcmp
 split
 ·constructor <;> intro <;> omega
 ·split <;> constructor <;> intro <;> omega
theorem rises_any (W : World) (B : Nat) (sv : Value) (l : List Sl) (hB : Has W B 29 #[sv]) (hs : SlotsAt W sv l) :
  Calls Tryz.prog 144 #[tabV l.length B] W fun e w' => e = .returned (.bool (riseB l)) ∧ Below W.heap.size W w' := by
 have hmx : Tryz.prog.follows .mixedOrders = true := by kernel_rfl
 obtain ⟨a, cap, _, hnc, hcm⟩ := hs.shape
 obtain ⟨W1, hW1, LB, Q⟩ := newBox W 174 #[.int .i64 (l.length : Int), .func (.func 154) #[] #[.pointer (some ⟨B, 0, none⟩)], .func (.func 155) #[] #[.pointer (some ⟨B, 0, none⟩)], .func (.func 156) #[] #[]]
 have HB := hid hB
 have HS := hid hs
 have HL := hid LB
 have HQ := hid Q
 have hlc := hid (Nat.le_trans hnc hcm)
 clear hB hs LB Q hnc hcm
 obtain ⟨n, hn⟩ : ∃ n, l.length = n := ⟨_, rfl⟩
 rw [hn] at HL hlc hW1 ⊢
 have HN := hid hn
 clear hn
 go_enter Tryz.func144, Tryz.ntmps144
 go_wp2_with fail
 clear hW1
 go_loopw [3] (fun i wr => ∃ k : Nat, 1 ≤ k ∧ (k ≤ n ∨ k = 1) ∧ i = .int .i64 (k : Int) ∧ (∀ (j : Nat) (x y : Sl), j + 1 < k → l[j]? = some x → l[j + 1]? = some y → x.1 < y.1) ∧ Below W1.heap.size W1 wr) (fun i _ => n - (intOf i).toNat)
 case atStart => exact ⟨1, by omega, .inr rfl, rfl, fun j x y h => absurd h (by omega), Below.refl _ _⟩
 case round =>
  obtain ⟨k, hk1, hk, rfl, hlt, hq⟩ := hrel
  have HLT := hid hlt
  have HQ2 := hid hq
  have k0 := (HL.out.later hq).cell 0 _ rfl
  clear hlt hq
  by_cases hkn : k < n
  ·have hknI : (k : Int) < (n : Int) := by omega
   have hk1I : (1 : Int) ≤ (k : Int) := by omega
   obtain ⟨x, hx⟩ : ∃ x, l[k - 1]? = some x := ⟨_, List.getElem?_eq_getElem (by have := HN.out; omega)⟩
   obtain ⟨y, hy⟩ : ∃ y, l[k]? = some y := ⟨_, List.getElem?_eq_getElem (by have := HN.out; omega)⟩
   have QW := hid (HQ.out.trans (HQ2.out.mono HQ.out.size))
   have wx := HS.out.wide hx
   have wy := HS.out.wide hy
   have K1 := hid (fun z : Ext wr => Ext.at (key_at z.w B sv l (HB.out.later (QW.out.trans (z.below.mono QW.out.size))) (HS.out.later (QW.out.trans (z.below.mono QW.out.size))) (k - 1) x hx))
   have K2 := hid (fun z : Ext wr => Ext.at (key_at z.w B sv l (HB.out.later (QW.out.trans (z.below.mono QW.out.size))) (HS.out.later (QW.out.trans (z.below.mono QW.out.size))) k y hy))
   have K3 := hid (cmp_ret x.1 y.1 wx.1 wy.1)
   rw [show ((k - 1 : Nat) : Int) = (k : Int) - 1 by omega] at K1
   have j1 : ∀ z : Ext wr, z.w.cell? ⟨W.heap.size, 1, none⟩ = some (.func (.func 154) #[] #[.pointer (some ⟨B, 0, none⟩)]) := fun z => ((HL.out.later HQ2.out).later z.below).cell 1 _ rfl
   have j3 : ∀ z : Ext wr, z.w.cell? ⟨W.heap.size, 3, none⟩ = some (.func (.func 156) #[] #[]) := fun z => ((HL.out.later HQ2.out).later z.below).cell 3 _ rfl
   have HK := hid (And.intro hk1 hkn)
   have HX := hid (And.intro hx hy)
   clear hk1 hk hkn hx hy wx wy
   have w1 : wrap64 ((k : Int) - 1) = (k : Int) - 1 := wrapIn _ (by have := hlc.out; have := HK.out; omega)
   have hkb : (k : Int) ≤ 9223372036854775806 := by have := hlc.out; have := HK.out; omega
   have hcge := wcmp_ge x.1 y.1
   generalize wcmp x.1 y.1 = c at *
   generalize wv x.1 = vx at *
   generalize wv y.1 = vy at *
   have hcc := hid hcge
   clear hcge
   by_cases hc0 : 0 ≤ c
   ·go_wp2_with fail
    refine wp_region_quietL (C := Grows wr) hmx (by kernel_rfl) (grows_refl wr) ?_
    repeat (go_big_quiet_step (first | (with_reducible exact K1.out _) | (with_reducible exact K2.out _) | (with_reducible exact Ret.at K3.out _)))
    refine wpQuiet_nil ?_
    rintro _ ⟨z, rfl⟩
    have hno := hid (show riseB l = false from riseB_false (fun hr => by
     have h1 := rise_at.1 hr (k - 1) x y HX.out.1 (by rw [show k - 1 + 1 = k by have := HK.out; omega]; exact HX.out.2)
     have := hcc.out.1 hc0
     omega))
    have HE := hid (QW.out.trans (z.below.mono QW.out.size))
    clear j1 j3 K1 K2 K3 k0
    go_wp2_with fail
    go_ret
    exact ⟨by rw [hno.out]; rfl, HE.out⟩
   ·go_wp2_with fail
    refine wp_region_quietL (C := Grows wr) hmx (by kernel_rfl) (grows_refl wr) ?_
    repeat (go_big_quiet_step (first | (with_reducible exact K1.out _) | (with_reducible exact K2.out _) | (with_reducible exact Ret.at K3.out _)))
    refine wpQuiet_nil ?_
    rintro _ ⟨z, rfl⟩
    have HE := hid (HQ2.out.trans (z.below.mono HQ2.out.size))
    have hlt := hid (show x.1 < y.1 from Nat.lt_of_not_le (fun h => by have := hcc.out.2 h; omega))
    clear j1 j3 K1 K2 K3 k0
    go_wp2_with fail
    go_roundw
    case rel =>
     refine ⟨k + 1, by omega, .inl (by have := HK.out; omega), by simp, fun j x' y' hj h1 h2 => ?_, HE.out⟩
     by_cases hjk : j + 1 < k
     ·exact HLT.out j x' y' hjk h1 h2
     ·have hjk' : j = k - 1 := by omega
      have := HK.out
      subst hjk'
      rw [HX.out.1] at h1
      rw [show k - 1 + 1 = k by omega, HX.out.2] at h2
      injection h1 with h1
      injection h2 with h2
      subst h1 h2
      exact hlt.out
    case measure => have := HK.out; simp [intOf]; omega
  ·have hknI : ¬ (k : Int) < (n : Int) := by omega
   have hyes := hid (show riseB l = true from (riseB_iff l).2 (rise_at.2 (fun j x y hx hy => HLT.out j x y (by
    have := (List.getElem?_eq_some_iff.1 hy).1
    have := HN.out
    omega) hx hy)))
   have HE := hid (HQ.out.trans (HQ2.out.mono HQ.out.size))
   go_wp2_with fail
   go_ret
   exact ⟨by rw [hyes.out]; rfl, HE.out⟩
end
section
open Go Go.RowKit
attribute [local go_sem] Oper.semAt_some Grows wide_fn eq4
theorem eqv_w (a b : Nat) (ha : W256 a) (hb : W256 b) : (lim a 0 == lim b 0 && lim a 1 == lim b 1 && lim a 2 == lim b 2 && lim a 3 == lim b 3) = decide (a = b) := by
 by_cases h : a = b
 ·subst h; simp
 ·rw [decide_eq_false h]
  refine Bool.eq_false_iff.2 fun e => h ?_
  simp only [Bool.and_eq_true, beq_iff_eq] at e
  exact lim_ext ha hb fun k hk => by
   obtain rfl | rfl | rfl | rfl : k = 0 ∨ k = 1 ∨ k = 2 ∨ k = 3 := by omega
   ·exact e.1.1.1
   ·exact e.1.1.2
   ·exact e.1.2
   ·exact e.2
theorem zero_w (a : Nat) (ha : W256 a) : (lim a 0 == 0 && lim a 1 == 0 && lim a 2 == 0 && lim a 3 == 0) = decide (a = 0) := by
 have h := eqv_w a 0 ha (by unfold W256; omega)
 simpa only [lim_zero] using h
def HasZ (l : List Sl) : Prop := ∃ x ∈ l, x.2 = 0
noncomputable def patchB (l : List Sl) : Bool := decide (l.length ≤ 1000) && riseB l
noncomputable def rightB' (l : List Sl) : Bool := patchB l && l.all (fun x => decide (x.2 ≠ 0))
theorem patchB_iff (l : List Sl) : patchB l = true ↔ l.length ≤ 1000 ∧ Rise l := by unfold patchB; rw [Bool.and_eq_true, decide_eq_true_eq, riseB_iff]
theorem rightB_iff' (l : List Sl) : rightB' l = true ↔ l.length ≤ 1000 ∧ Kept l := by
 unfold rightB' Kept
 rw [Bool.and_eq_true, patchB_iff, List.all_eq_true]
 simp only [decide_eq_true_eq]
 exact ⟨fun ⟨⟨h1, h2⟩, h3⟩ => ⟨h1, h2, h3⟩, fun ⟨h1, h2, h3⟩ => ⟨⟨h1, h2⟩, h3⟩⟩
theorem patch_any (W : World) (sv : Value) (l : List Sl) (hs : SlotsAt W sv l) :
  Calls Tryz.prog 115 #[sv] W fun e w' => e = .returned (.bool (patchB l)) ∧ Below W.heap.size W w' := by
 obtain ⟨a, cap, hsv, hnc, hcm⟩ := hs.shape
 have HS := hid hs
 have HP := hid (show patchB l = (decide (l.length ≤ 1000) && riseB l) from rfl)
 have H1 := hid (slots_any W sv l hs)
 have H2 := hid (fun (W1 : World) (B : Nat) (hB : Has W1 B 29 #[sv]) (h : SlotsAt W1 sv l) => rises_any W1 B sv l hB h)
 subst hsv
 generalize riseB l = rb at *
 generalize patchB l = pb at *
 generalize hn : l.length = n at *
 clear hn hs hnc hcm
 by_cases h : n ≤ 1000
 ·have hI : (n : Int) ≤ 1000 := by omega
  go_enter Tryz.func115, Tryz.ntmps115
  go_wp2_with fail
  refine H1.out.mono ?_
  rintro _ W1 ⟨B, rfl, hB, hH, q1⟩
  have H3 := hid (H2.out W1 B hH (HS.out.later q1))
  have Q := hid q1
  clear hB hH q1 H1 H2 HS
  go_wp2_with fail
  refine H3.out.mono ?_
  rintro _ W2 ⟨rfl, q2⟩
  have Q2 := hid (Q.out.trans (q2.mono Q.out.size))
  clear q2 H3 Q
  have HE := hid (show pb = rb by rw [HP.out, decide_eq_true h, Bool.true_and])
  clear HP h hI
  go_wp2_with fail
  go_ret
  exact ⟨by rw [HE.out]; rfl, Q2.out⟩
 ·have hI : ¬ (n : Int) ≤ 1000 := by omega
  have HE := hid (show pb = false by rw [HP.out, decide_eq_false h, Bool.false_and])
  clear HP h
  go_enter Tryz.func115, Tryz.ntmps115
  go_wp2_with fail
  go_ret
  exact ⟨by rw [HE.out]; rfl, Below.refl _ _⟩
theorem void_any (W : World) (x : Sl) (hx : W256 x.2) :
  Calls Tryz.prog 117 #[slV x] W fun e w' => e = .returned (.bool (decide (x.2 = 0))) ∧ Below W.heap.size W w' := by
 have hz := zero_w x.2 hx
 obtain ⟨k, v⟩ := x
 simp only at hz hx ⊢
 generalize decide (v = 0) = z at *
 unfold slV
 simp only
 generalize lim k 0 = a0 at *
 generalize lim k 1 = a1 at *
 generalize lim k 2 = a2 at *
 generalize lim k 3 = a3 at *
 generalize lim v 0 = b0 at *
 generalize lim v 1 = b1 at *
 generalize lim v 2 = b2 at *
 generalize lim v 3 = b3 at *
 clear hx
 have N := Has.new W 63 #[.int .u64 a0, .int .u64 a1, .int .u64 a2, .int .u64 a3, .int .u64 b0, .int .u64 b1, .int .u64 b2, .int .u64 b3]
 have q := newA W (.cells #[.int .u64 a0, .int .u64 a1, .int .u64 a2, .int .u64 a3, .int .u64 b0, .int .u64 b1, .int .u64 b2, .int .u64 b3] 63)
 have c4 := N.cell 4 _ rfl
 have c5 := N.cell 5 _ rfl
 have c6 := N.cell 6 _ rfl
 have c7 := N.cell 7 _ rfl
 replace N := hid N
 replace q := hid q
 replace hz := hid hz
 go_enter Tryz.func117, Tryz.ntmps117
 go_wp2_with fail
 go_ret
 exact ⟨by rw [← hz.out]; rfl, q.out⟩
theorem index_any (W : World) (sv : Value) (l : List Sl) (hs : SlotsAt W sv l) :
  Calls Tryz.prog 145 #[sv, .func (.func 117) #[] #[]] W fun e w' => ∃ r : Int, e = .returned (.int .i64 r) ∧ (0 ≤ r ↔ HasZ l) ∧ Below W.heap.size W w' := by
 obtain ⟨a, cap, rfl, hnc, hcm⟩ := hs.shape
 have HS := hid hs
 obtain ⟨n, hn⟩ : ∃ n, l.length = n := ⟨_, rfl⟩
 rw [hn] at HS hnc ⊢
 have HN := hid hn
 have hlc := hid (Nat.le_trans hnc hcm)
 clear hs hnc hcm hn
 go_enter Tryz.func145, Tryz.ntmps145
 go_wp2_with fail
 go_loopw [8] (fun i wr => ∃ k : Nat, k ≤ n ∧ i = .int .i64 (k : Int) ∧ (∀ (j : Nat) (x : Sl), j < k → l[j]? = some x → x.2 ≠ 0) ∧ Below W.heap.size W wr) (fun i _ => n - (intOf i).toNat)
 case atStart => exact ⟨0, by omega, rfl, fun j x h => absurd h (by omega), Below.refl _ _⟩
 case round =>
  obtain ⟨k, hk, rfl, hlt, hq⟩ := hrel
  have HLT := hid hlt
  have HQ := hid hq
  clear hlt hq
  by_cases hkn : k < n
  ·have hknI : (k : Int) < (n : Int) := by omega
   have hk0 : (0 : Int) ≤ (k : Int) := by omega
   have hkb : (k : Int) ≤ 9223372036854775806 := by have := hlc.out; omega
   obtain ⟨x, hx⟩ : ∃ x, l[k]? = some x := ⟨_, List.getElem?_eq_getElem (by have := HN.out; omega)⟩
   obtain ⟨b, rfl, c0, c1, c2, c3, c4, c5, c6, c7⟩ := (HS.out.later HQ.out).at hx
   have wx := HS.out.wide hx
   have HV := hid (fun (X : World) => void_any X x wx.2)
   have HK := hid hkn
   have HX := hid hx
   clear hkn hx wx hk
   unfold slV at HV
   generalize lim x.1 0 = a0 at *
   generalize lim x.1 1 = a1 at *
   generalize lim x.1 2 = a2 at *
   generalize lim x.1 3 = a3 at *
   generalize lim x.2 0 = b0 at *
   generalize lim x.2 1 = b1 at *
   generalize lim x.2 2 = b2 at *
   generalize lim x.2 3 = b3 at *
   go_wp2_with fail
   refine (HV.out _).mono ?_
   rintro _ W2 ⟨rfl, q2⟩
   have HE := hid (HQ.out.trans (q2.mono HQ.out.size))
   clear q2 HV c0 c1 c2 c3 c4 c5 c6 c7
   by_cases hz : x.2 = 0
   ·have hzb : decide (x.2 = 0) = true := decide_eq_true hz
    have HR := hid (show 0 ≤ (k : Int) ↔ HasZ l from ⟨fun _ => ⟨x, List.mem_of_getElem? HX.out, hz⟩, fun _ => hk0⟩)
    rw [hzb]
    clear hz hzb
    go_wp2_with fail
    go_ret
    exact ⟨_, rfl, HR.out, HE.out⟩
   ·have hzb : decide (x.2 = 0) = false := decide_eq_false hz
    rw [hzb]
    have HZ := hid hz
    clear hz hzb
    go_wp2_with fail
    go_roundw
    case rel => exact ⟨k + 1, by have := HK.out; omega, by simp, fun j y hj hy => by
     by_cases hjk : j < k
     ·exact HLT.out j y hjk hy
     ·obtain rfl : j = k := by omega
      rw [HX.out] at hy
      injection hy with hy
      subst hy
      exact HZ.out, HE.out⟩
    case measure => have := HK.out; simp [intOf]; omega
  ·have hknI : ¬ (k : Int) < (n : Int) := by omega
   have HR := hid (show 0 ≤ (-1 : Int) ↔ HasZ l from ⟨fun h => absurd h (by omega), fun ⟨x, hx, hz⟩ => by
    obtain ⟨j, hj⟩ := List.getElem?_of_mem hx
    have := (List.getElem?_eq_some_iff.1 hj).1
    exact absurd hz (HLT.out j x (by have := HN.out; omega) hj)⟩)
   go_wp2_with fail
   go_ret
   exact ⟨_, rfl, HR.out, HQ.out⟩
theorem contains_any (W : World) (sv : Value) (l : List Sl) (hs : SlotsAt W sv l) :
  Calls Tryz.prog 116 #[sv, .func (.func 117) #[] #[]] W fun e w' => e = .returned (.bool (!l.all (fun x => decide (x.2 ≠ 0)))) ∧ Below W.heap.size W w' := by
 have H := hid (index_any W sv l hs)
 clear hs
 go_enter Tryz.func116, Tryz.ntmps116
 go_wp2_with fail
 refine H.out.mono ?_
 rintro _ W1 ⟨r, rfl, hr, q⟩
 have HE := hid (show (!l.all (fun x => decide (x.2 ≠ 0))) = decide (0 ≤ r) by
  rw [Bool.eq_iff_iff, decide_eq_true_eq, hr]
  unfold HasZ
  simp)
 have Q := hid q
 clear hr q H
 go_wp2_with fail
 go_ret
 exact ⟨by rw [HE.out]; rfl, Q.out⟩
theorem right_slots (W : World) (sv : Value) (l : List Sl) (hs : SlotsAt W sv l) :
  Calls Tryz.prog 88 #[sv] W fun e w' => e = .returned (.bool (rightB' l)) ∧ Below W.heap.size W w' := by
 have H1 := hid (patch_any W sv l hs)
 have H2 := hid (fun (W1 : World) (h : SlotsAt W1 sv l) => contains_any W1 sv l h)
 have HS := hid hs
 have HR := hid (show rightB' l = (patchB l && l.all (fun x => decide (x.2 ≠ 0))) from rfl)
 generalize rightB' l = rb at *
 generalize patchB l = pb at *
 generalize l.all (fun x => decide (x.2 ≠ 0)) = ab at *
 clear hs
 go_enter Tryz.func88, Tryz.ntmps88
 go_wp2_with fail
 refine H1.out.mono ?_
 rintro _ W1 ⟨rfl, q1⟩
 have H3 := hid (H2.out W1 (HS.out.later q1))
 have Q := hid q1
 clear q1 H1 H2 HS
 cases pb
 ·go_wp2_with fail
  go_ret
  exact ⟨by rw [HR.out]; rfl, Q.out⟩
 ·go_wp2_with fail
  refine H3.out.mono ?_
  rintro _ W2 ⟨rfl, q2⟩
  have Q2 := hid (Q.out.trans (q2.mono Q.out.size))
  clear q2 H3 Q
  go_wp2_with fail
  go_ret
  exact ⟨by rw [HR.out]; cases ab <;> rfl, Q2.out⟩
end
section
open Go Go.RowKit
attribute [local go_sem] Oper.semAt_some Grows wide_fn
def nextN (la lb : List Sl) (i j : Nat) : Int := match la[i]?, lb[j]? with
 | none, _ => 1
 | some _, none => -1
 | some x, some y => wcmp x.1 y.1
theorem next_any (W : World) (B1 B2 : Nat) (sa sb : Value) (la lb : List Sl) (hA : Has W B1 29 #[sa]) (hB : Has W B2 29 #[sb]) (ha : SlotsAt W sa la) (hb : SlotsAt W sb lb) (i j : Nat) (hi : i ≤ la.length) (hj : j ≤ lb.length) :
  Calls Tryz.prog 165 #[tabV la.length B1, .int .i64 (i : Int), tabV lb.length B2, .int .i64 (j : Int)] W fun e w' => e = .returned (.int .i64 (nextN la lb i j)) ∧ Below W.heap.size W w' := by
 have hmx : Tryz.prog.follows .mixedOrders = true := by kernel_rfl
 have L1 := (Has.new W 174 #[.int .i64 ((la.length : Nat) : Int), .func (.func 154) #[] #[.pointer (some ⟨B1, 0, none⟩)], .func (.func 155) #[] #[.pointer (some ⟨B1, 0, none⟩)], .func (.func 156) #[] #[]]).alloc (.cells #[.int .i64 ((lb.length : Nat) : Int), .func (.func 154) #[] #[.pointer (some ⟨B2, 0, none⟩)], .func (.func 155) #[] #[.pointer (some ⟨B2, 0, none⟩)], .func (.func 156) #[] #[]] 174)
 have L2 := Has.new (W.alloc (.cells #[.int .i64 ((la.length : Nat) : Int), .func (.func 154) #[] #[.pointer (some ⟨B1, 0, none⟩)], .func (.func 155) #[] #[.pointer (some ⟨B1, 0, none⟩)], .func (.func 156) #[] #[]] 174)) 174 #[.int .i64 ((lb.length : Nat) : Int), .func (.func 154) #[] #[.pointer (some ⟨B2, 0, none⟩)], .func (.func 155) #[] #[.pointer (some ⟨B2, 0, none⟩)], .func (.func 156) #[] #[]]
 simp only [World.size_alloc] at L2
 have Q := (newA W (.cells #[.int .i64 ((la.length : Nat) : Int), .func (.func 154) #[] #[.pointer (some ⟨B1, 0, none⟩)], .func (.func 155) #[] #[.pointer (some ⟨B1, 0, none⟩)], .func (.func 156) #[] #[]] 174)).alloc (by simp) (.cells #[.int .i64 ((lb.length : Nat) : Int), .func (.func 154) #[] #[.pointer (some ⟨B2, 0, none⟩)], .func (.func 155) #[] #[.pointer (some ⟨B2, 0, none⟩)], .func (.func 156) #[] #[]] 174)
 obtain ⟨W1, hW1⟩ : ∃ W1, (W.alloc (.cells #[.int .i64 ((la.length : Nat) : Int), .func (.func 154) #[] #[.pointer (some ⟨B1, 0, none⟩)], .func (.func 155) #[] #[.pointer (some ⟨B1, 0, none⟩)], .func (.func 156) #[] #[]] 174)).alloc (.cells #[.int .i64 ((lb.length : Nat) : Int), .func (.func 154) #[] #[.pointer (some ⟨B2, 0, none⟩)], .func (.func 155) #[] #[.pointer (some ⟨B2, 0, none⟩)], .func (.func 156) #[] #[]] 174) = W1 := ⟨_, rfl⟩
 rw [hW1] at L1 L2 Q
 have k0 := L1.cell 0 _ rfl
 have m0 := L2.cell 0 _ rfl
 by_cases h1 : i = la.length
 ·have h1I : (i : Int) = (la.length : Int) := by omega
  have hE := hid (show nextN la lb i j = 1 by unfold nextN; rw [List.getElem?_eq_none (by omega)])
  subst h1
  generalize la.length = n at *
  generalize lb.length = n2 at *
  replace L1 := hid L1
  replace L2 := hid L2
  replace Q := hid Q
  clear ha hb hA hB hi hj h1I
  go_enter Tryz.func165, Tryz.ntmps165
  go_wp2_with fail
  go_ret
  exact ⟨by rw [hE.out]; rfl, Q.out⟩
 ·have h1I : ¬ (i : Int) = (la.length : Int) := by omega
  obtain ⟨x, hx⟩ : ∃ x, la[i]? = some x := ⟨_, List.getElem?_eq_getElem (by omega)⟩
  by_cases h2 : j = lb.length
  ·have h2I : (j : Int) = (lb.length : Int) := by omega
   have hE := hid (show nextN la lb i j = -1 by unfold nextN; rw [hx, List.getElem?_eq_none (by omega)])
   subst h2
   clear hx
   generalize la.length = n at *
   generalize lb.length = n2 at *
   replace L1 := hid L1
   replace L2 := hid L2
   replace Q := hid Q
   clear ha hb hA hB hi h1 h2I
   go_enter Tryz.func165, Tryz.ntmps165
   go_wp2_with fail
   go_ret
   exact ⟨by rw [hE.out]; rfl, Q.out⟩
  ·have h2I : ¬ (j : Int) = (lb.length : Int) := by omega
   obtain ⟨y, hy⟩ : ∃ y, lb[j]? = some y := ⟨_, List.getElem?_eq_getElem (by omega)⟩
   have hE := hid (show nextN la lb i j = wcmp x.1 y.1 by unfold nextN; rw [hx, hy])
   have K1 := hid (fun z : Ext W1 => Ext.at (key_at z.w B1 sa la (hA.later (Q.trans (z.below.mono Q.size))) (ha.later (Q.trans (z.below.mono Q.size))) i x hx))
   have K2 := hid (fun z : Ext W1 => Ext.at (key_at z.w B2 sb lb (hB.later (Q.trans (z.below.mono Q.size))) (hb.later (Q.trans (z.below.mono Q.size))) j y hy))
   have K3 := hid (cmp_ret x.1 y.1 (ha.wide hx).1 (hb.wide hy).1)
   have j1 : ∀ z : Ext W1, z.w.cell? ⟨W.heap.size, 1, none⟩ = some (.func (.func 154) #[] #[.pointer (some ⟨B1, 0, none⟩)]) := fun z => (L1.later z.below).cell 1 _ rfl
   have j3 : ∀ z : Ext W1, z.w.cell? ⟨W.heap.size, 3, none⟩ = some (.func (.func 156) #[] #[]) := fun z => (L1.later z.below).cell 3 _ rfl
   have j2 : ∀ z : Ext W1, z.w.cell? ⟨W.heap.size + 1, 1, none⟩ = some (.func (.func 154) #[] #[.pointer (some ⟨B2, 0, none⟩)]) := fun z => (L2.later z.below).cell 1 _ rfl
   replace hE := hid hE
   clear hx hy ha hb hA hB hi hj h1 h2
   generalize nextN la lb i j = nn at *
   generalize wcmp x.1 y.1 = c at *
   generalize wv x.1 = vx at *
   generalize wv y.1 = vy at *
   generalize la.length = n at *
   generalize lb.length = n2 at *
   replace L1 := hid L1
   replace L2 := hid L2
   replace Q := hid Q
   go_enter Tryz.func165, Tryz.ntmps165
   go_wp2_with fail
   refine wp_region_quietL (C := Grows W1) hmx (by kernel_rfl) (grows_refl W1) ?_
   repeat (go_big_quiet_step (first | (with_reducible exact K1.out _) | (with_reducible exact K2.out _) | (with_reducible exact Ret.at K3.out _)))
   refine wpQuiet_nil ?_
   rintro _ ⟨z, rfl⟩
   have HQ := hid (Q.out.trans (z.below.mono Q.out.size))
   clear j1 j2 j3 K1 K2 K3 k0 m0
   go_wp2_with fail
   go_ret
   exact ⟨by rw [hE.out.out]; rfl, HQ.out⟩
end
section
open Go Go.RowKit
def SeqC (F : Fence) (n : Nat) (P : Program) (g : Nat) (lb : Array Value) (E : Nat → Array Value → World → Prop) (Kp Sj : World → World → Prop) (N : Nat) (w : World) : Prop :=
 ∀ (l : Nat) (J Jx : Nat → World → Prop) (W : World), Below w.heap.size w W → (∀ s A X, J s A → Sj A X → J s X) → (∀ s A X, Jx s A → Sj A X → Jx s X) →
  (∀ k args W1, k < N → J k W1 → E k args W1 → YieldAt F (n - 1) P l args W1 fun e W' =>
   (e = .returned (.bool true) ∧ J (k + 1) W' ∧ Kp W1 W') ∨ (e = .returned (.bool false) ∧ Jx k W')) →
  J 0 W →
  CallsIn F n P g (#[.func (.yield l) #[] #[]] ++ lb) W fun e W' => (∃ v, e = .returned v) ∧ (J N W' ∨ ∃ k, k < N ∧ Jx k W')
variable {F : Fence} {n : Nat} {P : Program}
theorem wpIn_rangeFunc_C {g : Operand} {ps : Array Tmp} {assign body : Code} {Q : Exit → Act → World → Prop} {a : Act} {w : World}
  (hro : F.round = none) (h1 : 1 ≤ n) {gf : Nat} {lb : Array Value} (hg : a.eval g = .func (.func gf) #[] lb) (hFg : F.fn gf) (eg : ∀ args w, (callFunc gf args).run P w = .ok (.enter gf args) w)
  {E : Nat → Array Value → World → Prop} {Kp Sj : World → World → Prop} {N : Nat} (hseq : SeqC F (n - 1) P gf lb E Kp Sj N w) (hSj : ∀ A X, Sj A X → ∀ (b : Nat) (o : Obj), A.heap[b]? = some o → o.isCells = false → X.heap[b]? = some o)
  (hKt : ∀ {A B C : World}, Kp A B → Kp B C → Kp A C) (hKb : ∀ (W : World) (l : Nat) (o o' : Obj), w.heap.size ≤ l → W.heap[l]? = some o → o.isCells = false → o.isWalk = false → Kp W (W.putObj l o')) (hps : ∀ k args W, k < N → E k args W → args.size = ps.size)
  (I : Nat → World → Prop) (Ix : Code → Nat → World → Prop) (hI : OwnFrom w.heap.size I) (hIx : ∀ c, OwnFrom w.heap.size (Ix c)) (hIb : ∀ s A X, I s A → Sj A X → I s X) (hIxb : ∀ c s A X, Ix c s A → Sj A X → Ix c s X) (h0 : I 0 w) (Ax : Nat → Act → World → Prop) (hAx : ∀ k a', OwnFrom w.heap.size (fun (_ : Unit) W => Ax k a' W))
  (hassign : ∀ (l k : Nat) (args : Array Value) (W : World) (K : Act → World → Prop), w.heap.size ≤ l → k < N → I k W → E k args W → (∀ a' W', KeepsFrom w.heap.size W W' → Kp W W' → I k W' → Ax k a' W' → K a' W') →
   assign.wpIn (F.inRound l) (n - 1 - 1) P (Exit.then K (fun _ _ _ => False)) { tmps := (ps.zip args).foldl (fun t (p, v) => t.setIfInBounds p v) a.tmps, defers := [] } W)
  (hbody : ∀ (l k : Nat) (a' : Act) (W : World), w.heap.size ≤ l → (∃ r, W.heap[l]? = some (.loop r)) → k < N → I k W → Ax k a' W → body.wpIn (F.inRound l) (n - 1 - 1) P (roundN w.heap.size Kp I Ix k W) a' W)
  (hdone : ∀ (D : Nat) (W : World), w.heap.size ≤ D → I N W → W.heap[D]? = some (.deferred (some [])) → Q .normal { a with defers := { target := .collected D, args := #[] } :: a.defers } W)
  (hstop : ∀ (D : Nat) (c : Code) (k : Nat) (W : World), w.heap.size ≤ D → k < N → Ix c k W → W.heap[D]? = some (.deferred (some [])) → c.wpIn F n P Q { a with defers := { target := .collected D, args := #[] } :: a.defers } W) :
  (Code.rangeFunc g ps assign body).wpIn F n P Q a w := by
 refine wpIn_rangeFunc ?_
 intro fn hfn
 rw [hro]
 obtain ⟨rec, hrec⟩ : ∃ rec : LoopState → Option Code → Loop, rec = fun st pe => { state := st, pending := pe, fn, tmps := a.tmps, params := ps, assign, body, defers := w.heap.size } := ⟨_, rfl⟩
 obtain ⟨W1, hW1⟩ : ∃ W1, (w.alloc (.deferred (some []))).alloc (.loop (rec .ready none)) = W1 := ⟨_, rfl⟩
 have hL1 : W1.heap[w.heap.size + 1]? = some (.loop (rec .ready none)) := by
  rw [← hW1]; have := World.alloc_heap_new (w.alloc (.deferred (some []))) (.loop (rec .ready none)); rwa [World.size_alloc] at this
 have hK1 : W1.heap[w.heap.size]? = some (.deferred (some [])) := by
  rw [← hW1]; exact (Below.heap_alloc _ _ _ (by simp)).trans (World.alloc_heap_new w _)
 have hI1 : I 0 W1 := by rw [← hW1]; exact hI.alloc _ (hI.alloc _ h0)
 have hb1 : Below w.heap.size w W1 := by
  rw [← hW1]; exact ((Below.refl _ w).alloc (Nat.le_refl _) _).alloc (by simp) _
 refine ⟨w.heap.size + 1, [{ target := .collected w.heap.size, args := #[] }], W1, { target := .fn (.func gf) lb, args := #[.func (.yield (w.heap.size + 1)) #[] #[]] }, W1, gf,
  #[.func (.yield (w.heap.size + 1)) #[] #[]] ++ lb, W1, ?_, ?_, ?_, ?_, fun _ => h1, ?_⟩
 ·rw [← hW1, hrec]; exact run_enterLoop_outer _ _ _ _ _
 ·simp only [resolve, hg]
  simp [go_sem]
 ·intro f' hf'; simp [Target.leads] at hf'; subst hf'; exact hFg
 ·simp [invoke, go_sem, eg]
 ·skip
  refine (hseq (w.heap.size + 1)
   (fun k W => I k W ∧ W.heap[w.heap.size + 1]? = some (.loop (rec .ready none)) ∧ W.heap[w.heap.size]? = some (.deferred (some [])))
   (fun k W => ∃ c, Ix c k W ∧ W.heap[w.heap.size + 1]? = some (.loop (rec .done (some c))) ∧ W.heap[w.heap.size]? = some (.deferred (some [])))
   W1 hb1
   (fun s A X hs hb => ⟨hIb s A X hs.1 hb, hSj A X hb _ _ hs.2.1 rfl, hSj A X hb _ _ hs.2.2 rfl⟩)
   (fun s A X hs hb => by
    obtain ⟨c, hc, hl, hk⟩ := hs
    exact ⟨c, hIxb c s A X hc hb, hSj A X hb _ _ hl rfl, hSj A X hb _ _ hk rfl⟩)
   ?_ ⟨hI1, hL1, hK1⟩).mono ?_
  ·rintro k args W hkN ⟨hi, hl, hk⟩ hE
   have hlt : w.heap.size + 1 < W.heap.size := (Array.getElem?_eq_some_iff.1 hl).1
   have hy := run_yield (P := P) (args := args) hl (by rw [hrec]; exact hps k args W hkN hE)
   rw [hrec] at hy
   refine ⟨fn, _, assign, body, hy, roundIn_of_wpIn hfn (hassign _ k args W _ (by omega) hkN hi hE ?_)⟩
   clear hy
   intro a' Wa hkfa hkpa hia hax
   replace hl := hkfa.same _ _ (by omega) hl rfl
   replace hk := hkfa.same _ _ (Nat.le_refl _) hk rfl
   replace hlt : w.heap.size + 1 < Wa.heap.size := (Array.getElem?_eq_some_iff.1 hl).1
   refine ⟨_, run_beginRound hl (by rw [hrec]), ?_⟩
   have hl2 : (Wa.putObj (w.heap.size + 1) (.loop { rec .ready none with state := .busy })).heap[w.heap.size + 1]? = some (.loop { rec .ready none with state := .busy }) := World.putObj_heap_same hlt
   have hk2 : (Wa.putObj (w.heap.size + 1) (.loop { rec .ready none with state := .busy })).heap[w.heap.size]? = some (.deferred (some [])) := (World.putObj_heap_other (by omega)).trans hk
   have hw2 : Kp Wa (Wa.putObj (w.heap.size + 1) (.loop { rec .ready none with state := .busy })) := hKb _ _ _ _ (by omega) hl rfl rfl
   refine wpIn_mono (hbody _ k a' _ (by omega) ⟨_, hl2⟩ hkN (hI.putObj _ hia (by omega) hl rfl) ((hAx k a').putObj (s := ()) _ hax (by omega) hl rfl)) ?_
   have fin : ∀ (jump : Option Code) (W3 : World), KeepsFrom w.heap.size (Wa.putObj (w.heap.size + 1) (.loop { rec .ready none with state := .busy })) W3 →
     (Instr.endRound (w.heap.size + 1) jump).run P W3 = .ok (.bool jump.isNone) (W3.putObj (w.heap.size + 1) (.loop (rec (if jump.isNone then .ready else .done) jump))) ∧
     W3.heap[w.heap.size + 1]? = some (.loop { rec .ready none with state := .busy }) ∧
     (W3.putObj (w.heap.size + 1) (.loop (rec (if jump.isNone then .ready else .done) jump))).heap[w.heap.size + 1]? = some (.loop (rec (if jump.isNone then .ready else .done) jump)) ∧
     (W3.putObj (w.heap.size + 1) (.loop (rec (if jump.isNone then .ready else .done) jump))).heap[w.heap.size]? = some (.deferred (some [])) := fun jump W3 hk3 => by
    have hl3 := hk3.same _ _ (by omega) hl2 rfl
    have := run_endRound (P := P) jump hl3
    rw [hrec] at this ⊢
    exact ⟨this, by rw [hrec] at hl3; exact hl3, World.putObj_heap_same (Array.getElem?_eq_some_iff.1 hl3).1, (World.putObj_heap_other (by omega)).trans (hk3.same _ _ (Nat.le_refl _) hk2 rfl)⟩
   rintro e a3 W3 hp
   cases e with
   | normal =>
    obtain ⟨hk3, hkp3, hi3⟩ := hp
    obtain ⟨hr, hl3, hl4, hk4⟩ := fin none W3 hk3
    exact ⟨_, _, hr, .inl ⟨rfl, ⟨hI.putObj _ hi3 (by omega) hl3 rfl, hl4, hk4⟩, hKt hkpa (hKt (hKt hw2 hkp3) (hKb _ _ _ _ (by omega) hl3 rfl rfl))⟩⟩
   | ret =>
    obtain ⟨hk3, hi3⟩ := hp
    obtain ⟨hr, hl3, hl4, hk4⟩ := fin (some .ret) W3 hk3
    exact ⟨_, _, hr, .inr ⟨rfl, .ret, (hIx _).putObj _ hi3 (by omega) hl3 rfl, hl4, hk4⟩⟩
   | exit id =>
    obtain ⟨hk3, hi3⟩ := hp
    obtain ⟨hr, hl3, hl4, hk4⟩ := fin (some (.exit id)) W3 hk3
    exact ⟨_, _, hr, .inr ⟨rfl, .exit id, (hIx _).putObj _ hi3 (by omega) hl3 rfl, hl4, hk4⟩⟩
   | goto t =>
    obtain ⟨hk3, hi3⟩ := hp
    obtain ⟨hr, hl3, hl4, hk4⟩ := fin (some (.goto t)) W3 hk3
    exact ⟨_, _, hr, .inr ⟨rfl, .goto t, (hIx _).putObj _ hi3 (by omega) hl3 rfl, hl4, hk4⟩⟩
   | panic ch => exact hp.elim
   | outgrown => exact hp.elim
  ·rintro e W2 ⟨⟨v, rfl⟩, (⟨hi, hl, hk⟩ | ⟨k, hkN, c, hi, hl, hk⟩)⟩
   ·exact ⟨none, _, by have := run_endLoop (P := P) hl (by rw [hrec]; simp); rw [hrec] at this; exact this, hdone _ _ (Nat.le_refl _) (hI.putObj _ hi (by omega) hl rfl) ((World.putObj_heap_other (by omega)).trans hk)⟩
   ·exact ⟨some c, _, by have := run_endLoop (P := P) hl (by rw [hrec]; simp); rw [hrec] at this; exact this, hstop _ c k _ (Nat.le_refl _) hkN ((hIx c).putObj _ hi (by omega) hl rfl) ((World.putObj_heap_other (by omega)).trans hk)⟩
end
end Go.Proofs.YtkicmbdjihjgfaaGreatDoor
