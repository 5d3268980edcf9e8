/- Whose key comes next. Conditions: the slots lie in memory. -/
import Derived.Test.YtcannohmbaaceaaTabB
namespace Go.Proofs.Ytcannohmbaaceaa
open Go Go.RowKit
attribute [local go_sem] Oper.semAt_some Grows wide_fn

/-- Whose key comes next. -/
def nextN (la lb : List Sl) (i j : Nat) : Int := match la[i]?, lb[j]? with
  | none, _ => 1
  | some _, none => -1
  | some x, some y => wcmp x.1 y.1
set_option maxRecDepth 100000 in
set_option maxHeartbeats 2000000 in
theorem next_any (W : World) (B1 B2 : Nat) (sa sb : Value) (la lb : List Sl) (hA : Has W B1 22 #[sa]) (hB : Has W B2 22 #[sb]) (ha : SlotsAt W sa la) (hb : SlotsAt W sb lb) (i j : Nat) (hi : i ≤ la.length) (hj : j ≤ lb.length) :
    Calls Try.prog 42 #[tabV la.length B1, .int .i64 (i : Int), tabV lb.length B2, .int .i64 (j : Int)] W fun e w' => e = .returned (.int .i64 (nextN la lb i j)) ∧ Below W.heap.size W w' := by
  have hmx : Try.prog.follows .mixedOrders = true := by kernel_rfl
  have L1 := (Has.new W 49 #[.int .i64 ((la.length : Nat) : Int), .func (.func 33) #[] #[.pointer (some ⟨B1, 0, none⟩)], .func (.func 34) #[] #[.pointer (some ⟨B1, 0, none⟩)], .func (.func 35) #[] #[]]).alloc (.cells #[.int .i64 ((lb.length : Nat) : Int), .func (.func 33) #[] #[.pointer (some ⟨B2, 0, none⟩)], .func (.func 34) #[] #[.pointer (some ⟨B2, 0, none⟩)], .func (.func 35) #[] #[]] 49)
  have L2 := Has.new (W.alloc (.cells #[.int .i64 ((la.length : Nat) : Int), .func (.func 33) #[] #[.pointer (some ⟨B1, 0, none⟩)], .func (.func 34) #[] #[.pointer (some ⟨B1, 0, none⟩)], .func (.func 35) #[] #[]] 49)) 49 #[.int .i64 ((lb.length : Nat) : Int), .func (.func 33) #[] #[.pointer (some ⟨B2, 0, none⟩)], .func (.func 34) #[] #[.pointer (some ⟨B2, 0, none⟩)], .func (.func 35) #[] #[]]
  simp only [World.size_alloc] at L2
  have Q := ((Below.refl W.heap.size W).alloc (Nat.le_refl _) (.cells #[.int .i64 ((la.length : Nat) : Int), .func (.func 33) #[] #[.pointer (some ⟨B1, 0, none⟩)], .func (.func 34) #[] #[.pointer (some ⟨B1, 0, none⟩)], .func (.func 35) #[] #[]] 49)).alloc (by simp) (.cells #[.int .i64 ((lb.length : Nat) : Int), .func (.func 33) #[] #[.pointer (some ⟨B2, 0, none⟩)], .func (.func 34) #[] #[.pointer (some ⟨B2, 0, none⟩)], .func (.func 35) #[] #[]] 49)
  obtain ⟨W1, hW1⟩ : ∃ W1, (W.alloc (.cells #[.int .i64 ((la.length : Nat) : Int), .func (.func 33) #[] #[.pointer (some ⟨B1, 0, none⟩)], .func (.func 34) #[] #[.pointer (some ⟨B1, 0, none⟩)], .func (.func 35) #[] #[]] 49)).alloc (.cells #[.int .i64 ((lb.length : Nat) : Int), .func (.func 33) #[] #[.pointer (some ⟨B2, 0, none⟩)], .func (.func 34) #[] #[.pointer (some ⟨B2, 0, none⟩)], .func (.func 35) #[] #[]] 49) = W1 := ⟨_, rfl⟩
  rw [hW1] at L1 L2 Q
  have k0 := L1.cell 0 _ rfl
  have m0 := L2.cell 0 _ rfl
  by_cases h1 : i = la.length
  · have h1I : (i : Int) = (la.length : Int) := by omega
    have hE := Lib.hid (show nextN la lb i j = 1 by unfold nextN; rw [List.getElem?_eq_none (by omega)])
    subst h1
    generalize la.length = n at *
    generalize lb.length = n2 at *
    replace L1 := Lib.hid L1
    replace L2 := Lib.hid L2
    replace Q := Lib.hid Q
    clear ha hb hA hB hi hj h1I
    go_enter Try.func42, Try.ntmps42
    go_wp2_with fail
    go_ret
    exact ⟨by rw [hE.out]; rfl, Q.out⟩
  · have h1I : ¬ (i : Int) = (la.length : Int) := by omega
    obtain ⟨x, hx⟩ : ∃ x, la[i]? = some x := ⟨_, List.getElem?_eq_getElem (by omega)⟩
    by_cases h2 : j = lb.length
    · have h2I : (j : Int) = (lb.length : Int) := by omega
      have hE := Lib.hid (show nextN la lb i j = -1 by unfold nextN; rw [hx, List.getElem?_eq_none (by omega)])
      subst h2
      clear hx
      generalize la.length = n at *
      generalize lb.length = n2 at *
      replace L1 := Lib.hid L1
      replace L2 := Lib.hid L2
      replace Q := Lib.hid Q
      clear ha hb hA hB hi h1 h2I
      go_enter Try.func42, Try.ntmps42
      go_wp2_with fail
      go_ret
      exact ⟨by rw [hE.out]; rfl, Q.out⟩
    · have h2I : ¬ (j : Int) = (lb.length : Int) := by omega
      obtain ⟨y, hy⟩ : ∃ y, lb[j]? = some y := ⟨_, List.getElem?_eq_getElem (by omega)⟩
      have hE := Lib.hid (show nextN la lb i j = wcmp x.1 y.1 by unfold nextN; rw [hx, hy])
      have K1 := Lib.hid (fun z : Ext W1 => Ext.at (key_at z.w B1 sa la (hA.later (Q.trans (z.below.mono Q.size))) (ha.later (Q.trans (z.below.mono Q.size))) i x hx))
      have K2 := Lib.hid (fun z : Ext W1 => Ext.at (key_at z.w B2 sb lb (hB.later (Q.trans (z.below.mono Q.size))) (hb.later (Q.trans (z.below.mono Q.size))) j y hy))
      have K3 := Lib.hid (cmp_ret x.1 y.1 (ha.wide hx).1 (hb.wide hy).1)
      have j1 : ∀ z : Ext W1, z.w.cell? ⟨W.heap.size, 1, none⟩ = some (.func (.func 33) #[] #[.pointer (some ⟨B1, 0, none⟩)]) := fun z => (L1.later z.below).cell 1 _ rfl
      have j3 : ∀ z : Ext W1, z.w.cell? ⟨W.heap.size, 3, none⟩ = some (.func (.func 35) #[] #[]) := fun z => (L1.later z.below).cell 3 _ rfl
      have j2 : ∀ z : Ext W1, z.w.cell? ⟨W.heap.size + 1, 1, none⟩ = some (.func (.func 33) #[] #[.pointer (some ⟨B2, 0, none⟩)]) := fun z => (L2.later z.below).cell 1 _ rfl
      replace hE := Lib.hid hE
      clear hx hy ha hb hA hB hi hj h1 h2
      generalize nextN la lb i j = nn at *
      generalize wcmp x.1 y.1 = c at *
      generalize wv x.1 = vx at *
      generalize wv y.1 = vy at *
      generalize la.length = n at *
      generalize lb.length = n2 at *
      replace L1 := Lib.hid L1
      replace L2 := Lib.hid L2
      replace Q := Lib.hid Q
      go_enter Try.func42, Try.ntmps42
      go_wp2_with fail
      refine wp_region_quietL (C := Grows W1) hmx (by kernel_rfl) (grows_refl W1) ?_
      repeat (go_big_quiet_step (first | (with_reducible exact K1.out _) | (with_reducible exact K2.out _) | (with_reducible exact Ret.at K3.out _)))
      refine wpQuiet_nil ?_
      rintro _ ⟨z, rfl⟩
      have HQ := Lib.hid (Q.out.trans (z.below.mono Q.out.size))
      clear j1 j2 j3 K1 K2 K3 k0 m0
      go_wp2_with fail
      go_ret
      exact ⟨by rw [hE.out.out]; rfl, HQ.out⟩
end Go.Proofs.Ytcannohmbaaceaa
