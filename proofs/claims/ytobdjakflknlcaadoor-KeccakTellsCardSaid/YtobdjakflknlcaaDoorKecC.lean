/- theta: each lane and the sums of the columns at both its sides. For all lanes. -/
import Derived.Test.YtobdjakflknlcaaDoorKecB
namespace Go.Proofs.YtobdjakflknlcaaDoor
open Go Go.RowKit Go.Shelf
attribute [local go_sem] Oper.semAt_some Grows wide_fn
theorem field0 (x y : Int) (W : World) : (Instr.field 52 (.agg #[.int .u64 x, .int .u64 y]) 0).run Tryd.prog W = .ok (.int .u64 x) W := by
  have u := Tryd.underlying52
  have a3 := Tryd.isAgg50
  unfold Instr.field
  simp only [Sem.run_bind, run_underlying u, Result.andThen_ok]
  simp [go_sem, part, asAgg, a3]
attribute [local go_sem] field0

theorem Has.grown {A X : World} {row : Option Nat} {B : Nat} {t : TypeId} {cs : Array Value} (h : Has A B t cs) (hg : A.grownBy X row) (hr : ∀ r, row = some r → ∃ o : Obj, A.heap[r]? = some o ∧ o.isCells = false) : Has X B t cs := by
  refine (hg.block B h.lt (fun e => ?_)).trans h
  obtain ⟨o, ho, hc⟩ := hr B e.symm
  rw [show A.heap[B]? = _ from h] at ho
  cases ho
  cases hc
theorem Has.kept {A X : World} {row : Option Nat} {B : Nat} {t : TypeId} {cs : Array Value} (h : Has A B t cs) (hg : A.grownBy X row) (hne : some B ≠ row) : Has X B t cs := (hg.block B h.lt hne).trans h
/-- What was so from a world on, but for one block, is so behind a change of a block that is newer. -/
theorem grown_more {w A X : World} {B n : Nat} {row : Option Nat} (h : w.grownBy A (some B)) (hg : A.grownBy X row) (hn : w.heap.size ≤ n) (hr : ∀ r, row = some r → n ≤ r) : w.grownBy X (some B) :=
  ⟨hg.os.trans h.os, hg.tape.trans h.tape, hg.output.trans h.output, Nat.le_trans h.size hg.size, fun k hk hne => (hg.block k (Nat.lt_of_lt_of_le hk h.size) (fun e => by have := hr k e.symm; omega)).trans (h.block k hk hne)⟩

/-- What the blocks hold: the lanes, their address, the columns' sums. -/
structure ThSt (w : World) (B : Nat) (A S : Nat → Nat) (W : World) : Prop where
  A : Has W B 24 (luC 25 A)
  P : Has W w.heap.size 37 #[.pointer (some ⟨B, 0, none⟩)]
  S : Has W (w.heap.size + 1) 48 (luC 5 S)
  G : w.grownBy W (some B)
theorem ThSt.own (w : World) (B n : Nat) (hn : w.heap.size ≤ n) (A S : Nat → Nat → Nat) : OwnFrom n (fun (k : Nat) W => ThSt w B (A k) (S k) W) := fun s X Y row hs hg hr =>
  ⟨hs.A.grown hg (fun r e => (hr r e).2), hs.P.grown hg (fun r e => (hr r e).2), hs.S.grown hg (fun r e => (hr r e).2), grown_more hs.G hg hn (fun r e => (hr r e).1)⟩
theorem ThSt.later {w : World} {B : Nat} {A S : Nat → Nat} {W X : World} (h : ThSt w B A S W) (hb : Below W.heap.size W X) : ThSt w B A S X :=
  ⟨h.A.later hb, h.P.later hb, h.S.later hb, grown_then_below h.G hb⟩
theorem ThSt.put {w : World} {B : Nat} {A S S' : Nat → Nat} {W : World} (h : ThSt w B A S W) (hB : B < w.heap.size) (j v : Nat) (hS : ∀ i, i < 5 → S' i = if i = j then v else S i) :
    ThSt w B A S' (W.setCell ⟨w.heap.size + 1, j, none⟩ (.int .u64 ((v : Nat) : Int))) :=
  ⟨h.A.other (by simp; omega) _, h.P.other (by simp) _, by have := h.S.set j (.int .u64 ((v : Nat) : Int)); rwa [luC_set 5 S S' j v hS] at this, grown_set h.G (.inr (by simp)) _⟩
theorem ThSt.putA {w : World} {B : Nat} {A A' S : Nat → Nat} {W : World} (h : ThSt w B A S W) (hB : B < w.heap.size) (j v : Nat) (hS : ∀ i, i < 25 → A' i = if i = j then v else A i) :
    ThSt w B A' S (W.setCell ⟨B, j, none⟩ (.int .u64 ((v : Nat) : Int))) :=
  ⟨by have := h.A.set j (.int .u64 ((v : Nat) : Int)); rwa [luC_set 25 A A' j v hS] at this, h.P.other (by simp; omega) _, h.S.other (by simp; omega) _, grown_set h.G (.inl rfl) _⟩
theorem plV_eq (k : Nat) : plV k = .agg #[.int .u64 ((k % 5 : Nat) : Int), .int .u64 ((k / 5 : Nat) : Int)] := rfl
theorem plane_ret (k : Nat) (hk : k < 25) : Ret Tryd.prog 26 #[.agg #[.int .u64 ((k % 5 : Nat) : Int), .int .u64 ((k / 5 : Nat) : Int)]] (.int .u64 (k : Int)) :=
  (lane_ret _ _ ⟨by omega, by omega⟩ ⟨by omega, by omega⟩).of_eq rfl (by congr 1; omega)
theorem pbes_ret (k on : Nat) (ho : on < 5) : Ret Tryd.prog 27 #[.agg #[.int .u64 ((k % 5 : Nat) : Int), .int .u64 ((k / 5 : Nat) : Int)], .int .u64 (on : Int)] (.agg #[.int .u64 (((k % 5 + on) % 5 : Nat) : Int), .int .u64 ((k / 5 : Nat) : Int)]) :=
  (beside_ret _ _ (on : Int) ⟨by omega, by omega⟩ ⟨by omega, by omega⟩).of_eq rfl (by
    have : besI ((k % 5 : Nat) : Int) (on : Int) = (((k % 5 + on) % 5 : Nat) : Int) := by unfold besI; split <;> omega
    rw [this])
theorem xor_i (a b : Nat) (ha : a < 2 ^ 64) (hb : b < 2 ^ 64) : bits .xor .u64 (a : Int) (b : Int) = ((a ^^^ b : Nat) : Int) := bits_xor_u64_nat a b ha hb
/-- The lanes when theta's second round is at a place. -/
def thK (A : Nat → Nat) (k j : Nat) : Nat := if j < k then thetaN A j else A j

set_option maxRecDepth 100000 in
set_option maxHeartbeats 4000000 in
theorem theta_calls (B : Nat) (A : Nat → Nat) (hA : ∀ j, A j < 2 ^ 64) (w : World) (hB : Has w B 24 (luC 25 A)) :
    Calls Tryd.prog 12 #[.pointer (some ⟨B, 0, none⟩)] w fun e w' => (∃ v, e = .returned v) ∧ Has w' B 24 (luC 25 (thetaN A)) ∧ w.grownBy w' (some B) := by
  have hBl := hB.lt
  have hmx : Tryd.prog.follows .mixedOrders = true := by kernel_rfl
  refine (callsIn_wide (n := 8)).1 ?_
  refine callsIn_of_wp_marks Tryd.func12 rfl trivial ?_ rfl
  simp only [Tryd.ntmps12, List.size_toArray, List.length_cons, List.length_nil, Nat.reduceAdd, Nat.reduceSub, Array.replicate_succ, Array.replicate_zero, List.push_toArray, List.append_toArray, List.nil_append, List.cons_append]
  gi_wp2
  have LB := (hB.alloc (.cells #[.pointer (some ⟨B, 0, none⟩)] 37)).alloc (.cells (luC 5 (colK A 0)) 48)
  have LP := (Has.new w 37 #[.pointer (some ⟨B, 0, none⟩)]).alloc (.cells (luC 5 (colK A 0)) 48)
  have LS := Has.new (w.alloc (.cells #[.pointer (some ⟨B, 0, none⟩)] 37)) 48 (luC 5 (colK A 0))
  simp only [World.size_alloc] at LS
  have G := grown_alloc (grown_alloc (grown_of_below (Below.refl w.heap.size w) (some B)) (.cells #[.pointer (some ⟨B, 0, none⟩)] 37)) (.cells (luC 5 (colK A 0)) 48)
  have e5 : luC 5 (colK A 0) = #[.int .u64 0, .int .u64 0, .int .u64 0, .int .u64 0, .int .u64 0] := by rfl
  obtain ⟨W0, hW0⟩ : ∃ W0, (w.alloc (.cells #[.pointer (some ⟨B, 0, none⟩)] 37)).alloc (.cells (luC 5 (colK A 0)) 48) = W0 := ⟨_, rfl⟩
  have hsz : W0.heap.size = w.heap.size + 2 := by rw [← hW0]; simp
  rw [hW0] at LB LP LS G
  rw [e5] at hW0
  rw [hW0]
  have hJ0 : ThSt w B A (colK A 0) W0 := ⟨LB, LP, LS, G⟩
  clear hW0 LB LP LS G e5
  refine wpIn_rangeFunc_N rfl (by omega) (gf := 25) (lb := #[]) rfl trivial (enters_of Tryd.func25 (by kernel_rfl) rfl)
    (places_seq _ (by omega) (fun _ _ => True) W0) (fun _ _ => trivial) (fun _ _ _ _ _ _ _ _ => trivial) (fun _ _ => rfl)
    (fun k W => ThSt w B A (colK A k) W) (fun _ _ _ => False) (ThSt.own w B _ (by omega) (fun _ => A) (colK A)) (fun _ _ _ _ _ hs _ _ => hs) hJ0
    (fun k a' V => ∃ b, Has V b 52 #[.int .u64 ((k % 5 : Nat) : Int), .int .u64 ((k / 5 : Nat) : Int)] ∧ a' = { tmps := #[.pointer (some ⟨B, 0, none⟩), .pointer (some ⟨w.heap.size, 0, none⟩), .pointer (some ⟨w.heap.size + 1, 0, none⟩), .pointer (some ⟨b, 0, none⟩), undef, .agg #[.int .u64 ((k % 5 : Nat) : Int), .int .u64 ((k / 5 : Nat) : Int)], undef, undef, undef, undef, undef, undef, undef, undef, undef, undef, undef, undef, undef, undef, undef, undef, undef, undef, undef, undef, undef, undef, undef, undef, undef, undef, undef, undef, undef, undef, undef, undef, undef, undef], defers := [] }) (fun k a' _ X Y row hs hg hr => by obtain ⟨b, hH, e⟩ := hs; exact ⟨b, hH.grown hg (fun r e => (hr r e).2), e⟩) ?assign ?body ?done ?stop
  case assign =>
    intro l k W K hkN hst hK
    rw [plV_eq]
    have HST := Lib.hid hst
    have hWs := hst.G.size
    have hWs2 := hst.S.lt
    clear hst hkN
    have HK := Lib.hid hK
    clear hK
    gi_wp2
    exact HK.out _ _ ((KeepsOthers.alloc _ _).from _) trivial (HST.out.later ((Below.refl _ _).alloc (Nat.le_refl _) _)) ⟨_, Has.new _ _ _, rfl⟩
  case body =>
    rintro l k a' W hl hlo hkN hst ⟨b, hH, rfl⟩
    have hx5 : k % 5 < 5 := Nat.mod_lt _ (by omega)
    have hS' : ∀ i, i < 5 → colK A (k + 1) i = if i = k % 5 then colK A k (k % 5) ^^^ A k else colK A k i := fun i _ => by
      show (if i = k % 5 then colK A k i ^^^ A k else colK A k i) = _
      by_cases e : i = k % 5
      · rw [if_pos e, if_pos e, e]
      · rw [if_neg e, if_neg e]
    have hxr := xor_i (colK A k (k % 5)) (A k) (colK_lt A hA k _) (hA k)
    have HL := Lib.hid (plane_ret k hkN)
    have kb0 : ∀ x : Ext W, x.w.cell? ⟨b, 0, none⟩ = some (.int .u64 ((k % 5 : Nat) : Int)) := fun x => (hH.later x.below).cell 0 _ rfl
    have kb1 : ∀ x : Ext W, x.w.cell? ⟨b, 1, none⟩ = some (.int .u64 ((k / 5 : Nat) : Int)) := fun x => (hH.later x.below).cell 1 _ rfl
    have kS : ∀ x : Ext W, x.w.cell? ⟨w.heap.size + 1, k % 5, none⟩ = some (.int .u64 ((colK A k (k % 5) : Nat) : Int)) := fun x => (hst.S.later x.below).cell _ _ (luC_get 5 _ _ hx5)
    have kA : ∀ x : Ext W, x.w.cell? ⟨B, k, none⟩ = some (.int .u64 ((A k : Nat) : Int)) := fun x => (hst.A.later x.below).cell _ _ (luC_get 25 _ _ hkN)
    have kP : ∀ x : Ext W, x.w.cell? ⟨w.heap.size, 0, none⟩ = some (.pointer (some ⟨B, 0, none⟩)) := fun x => (hst.P.later x.below).cell 0 _ rfl
    have kz : ∀ x : Ext W, x.w.frozen? ⟨w.heap.size + 1, k % 5, none⟩ = false := fun x => (hst.S.later x.below).frozen _
    generalize colK A k (k % 5) ^^^ A k = r at *
    generalize colK A k (k % 5) = c at *
    generalize A k = ak at *
    generalize k % 5 = x5 at *
    generalize k / 5 = y5 at *
    have hx5I : (x5 : Int) < 5 := by omega
    have hk5I : (k : Int) < 25 := by omega
    have HST := Lib.hid hst
    have HS' := Lib.hid hS'
    clear hst hH hS' hkN hx5
    gi_wp2_with fail
    refine wpIn_region_mix (C := Grows W) (free_round l) [some true, some true, some true, some true, some true, some true, some true, some true, some true, some true, some true, some true, none] hmx (by kernel_rfl) (by kernel_rfl) (grows_refl W) ?_
    simp only [headOf, tailOf]
    repeat (go_big_quiet_step (first | (with_reducible exact Ret.at HL.out _)))
    refine wpQuiet_nil ?_
    rintro _ ⟨x, rfl⟩
    have H2 := Lib.hid ((HST.out.later x.below).put hBl x5 r HS'.out)
    have HKP := Lib.hid (x.keeps W0.heap.size)
    have kz' := kz x
    have kS' := kS x
    clear kz kS kA kP kb0 kb1
    go_wp2
    rw [calmPost_normal]
    gi_wp2
    exact ⟨HKP.out.trans ((KeepsOthers.setCell _ _ _).from _), trivial, H2.out⟩
  case done => 
    rintro D W hD hst hK
    have hWD : D < W.heap.size := (Array.getElem?_eq_some_iff.1 hK).1
    have hWs := hst.G.size
    have hJ2 : ThSt w B (thK A 0) (colK A 25) W := ⟨by rw [luC_congr 25 (thK A 0) A (fun j _ => by unfold thK; rw [if_neg (by omega)])]; exact hst.A, hst.P, hst.S, hst.G⟩
    have HK := Lib.hid hK
    clear hst hJ0 hK
    gi_wp2
    refine wpIn_rangeFunc_N rfl (by omega) (gf := 25) (lb := #[]) rfl trivial (enters_of Tryd.func25 (by kernel_rfl) rfl)
      (places_seq _ (by omega) (fun _ _ => True) W) (fun _ _ => trivial) (fun _ _ _ _ _ _ _ _ => trivial) (fun _ _ => rfl)
      (fun k W' => ThSt w B (thK A k) (colK A 25) W' ∧ W'.heap[D]? = some (.deferred (some []))) (fun _ _ _ => False)
      (fun s X Y row hs hg hr => ⟨ThSt.own w B W.heap.size (by omega) (thK A) (fun _ => colK A 25) s X Y row hs.1 hg hr, (hg.block D (Array.getElem?_eq_some_iff.1 hs.2).1 (fun e => by have := (hr D e.symm).1; omega)).trans hs.2⟩)
      (fun _ _ _ _ _ hs _ _ => hs) ⟨hJ2, HK.out⟩
      (fun k a' V => ∃ b, Has V b 52 #[.int .u64 ((k % 5 : Nat) : Int), .int .u64 ((k / 5 : Nat) : Int)] ∧ a' = { tmps := #[.pointer (some ⟨B, 0, none⟩), .pointer (some ⟨w.heap.size, 0, none⟩), .pointer (some ⟨w.heap.size + 1, 0, none⟩), undef, .pointer (some ⟨b, 0, none⟩), undef, undef, undef, undef, undef, undef, undef, undef, undef, undef, undef, undef, undef, .agg #[.int .u64 ((k % 5 : Nat) : Int), .int .u64 ((k / 5 : Nat) : Int)], undef, undef, undef, undef, undef, undef, undef, undef, undef, undef, undef, undef, undef, undef, undef, undef, undef, undef, undef, undef, undef], defers := [] }) (fun k a' _ X Y row hs hg hr => by obtain ⟨b, hH, e⟩ := hs; exact ⟨b, hH.grown hg (fun r e => (hr r e).2), e⟩) ?assign2 ?body2 ?done2 ?stop2
    case assign2 =>
      rintro l k W' K hkN ⟨hst, hD'⟩ hK
      rw [plV_eq]
      have HST := Lib.hid hst
      have HD' := Lib.hid hD'
      have hWs3 := hst.G.size
      have hWs4 := (Array.getElem?_eq_some_iff.1 hD').1
      have hWle : Hid (W'.heap.size = W'.heap.size) := Lib.hid rfl
      clear hst hkN hD'
      have HK2 := Lib.hid hK
      clear hK
      gi_wp2
      exact HK2.out _ _ ((KeepsOthers.alloc _ _).from _) trivial ⟨HST.out.later ((Below.refl _ _).alloc (Nat.le_refl _) _), (Below.heap_alloc _ _ _ hWs4).trans HD'.out⟩ ⟨_, Has.new _ _ _, rfl⟩
    case body2 =>
      rintro l k a' W' hl hlo hkN ⟨hst, hD'⟩ ⟨b, hH, rfl⟩
      have hx5 : (k % 5 + 4) % 5 < 5 := Nat.mod_lt _ (by omega)
      have hz5 : (k % 5 + 1) % 5 < 5 := Nat.mod_lt _ (by omega)
      have hS' : ∀ i, i < 25 → thK A (k + 1) i = if i = k then thetaN A k else thK A k i := fun i _ => by
        unfold thK
        by_cases e : i = k
        · rw [if_pos e, if_pos (by omega), e]
        · rw [if_neg e]
          by_cases e2 : i < k
          · rw [if_pos e2, if_pos (by omega)]
          · rw [if_neg e2, if_neg (by omega)]
      have hAk : thK A k k = A k := if_neg (Nat.lt_irrefl _)
      have hx1 := xor_i (colK A 25 ((k % 5 + 4) % 5)) (rotl (colK A 25 ((k % 5 + 1) % 5)) 1) (colK_lt A hA _ _) (rotl_lt _ _ (colK_lt A hA _ _))
      have hx2 := xor_i (A k) (colK A 25 ((k % 5 + 4) % 5) ^^^ rotl (colK A 25 ((k % 5 + 1) % 5)) 1) (hA k) (Nat.xor_lt_two_pow (colK_lt A hA _ _) (rotl_lt _ _ (colK_lt A hA _ _)))
      rw [show A k ^^^ (colK A 25 ((k % 5 + 4) % 5) ^^^ rotl (colK A 25 ((k % 5 + 1) % 5)) 1) = thetaN A k from rfl] at hx2
      have HL := Lib.hid (plane_ret k hkN)
      have HB4 : Hid (Ret Tryd.prog 27 #[.agg #[.int .u64 ((k % 5 : Nat) : Int), .int .u64 ((k / 5 : Nat) : Int)], .int .u64 4] (.agg #[.int .u64 (((k % 5 + 4) % 5 : Nat) : Int), .int .u64 ((k / 5 : Nat) : Int)])) := Lib.hid (pbes_ret k 4 (by omega))
      have HB1 : Hid (Ret Tryd.prog 27 #[.agg #[.int .u64 ((k % 5 : Nat) : Int), .int .u64 ((k / 5 : Nat) : Int)], .int .u64 1] (.agg #[.int .u64 (((k % 5 + 1) % 5 : Nat) : Int), .int .u64 ((k / 5 : Nat) : Int)])) := Lib.hid (pbes_ret k 1 (by omega))
      have HR : Hid (Ret Tryd.prog 28 #[.int .u64 ((colK A 25 ((k % 5 + 1) % 5) : Nat) : Int), .int .i64 1] (.int .u64 ((rotl (colK A 25 ((k % 5 + 1) % 5)) 1 : Nat) : Int))) := Lib.hid (rot_ret _ 1 (colK_lt A hA _ _) (by omega))
      have kb0 : ∀ x : Ext W', x.w.cell? ⟨b, 0, none⟩ = some (.int .u64 ((k % 5 : Nat) : Int)) := fun x => (hH.later x.below).cell 0 _ rfl
      have kb1 : ∀ x : Ext W', x.w.cell? ⟨b, 1, none⟩ = some (.int .u64 ((k / 5 : Nat) : Int)) := fun x => (hH.later x.below).cell 1 _ rfl
      have kS4 : ∀ x : Ext W', x.w.cell? ⟨w.heap.size + 1, (k % 5 + 4) % 5, none⟩ = some (.int .u64 ((colK A 25 ((k % 5 + 4) % 5) : Nat) : Int)) := fun x => (hst.S.later x.below).cell _ _ (luC_get 5 _ _ hx5)
      have kS1 : ∀ x : Ext W', x.w.cell? ⟨w.heap.size + 1, (k % 5 + 1) % 5, none⟩ = some (.int .u64 ((colK A 25 ((k % 5 + 1) % 5) : Nat) : Int)) := fun x => (hst.S.later x.below).cell _ _ (luC_get 5 _ _ hz5)
      have kA : ∀ x : Ext W', x.w.cell? ⟨B, k, none⟩ = some (.int .u64 ((A k : Nat) : Int)) := fun x => (hst.A.later x.below).cell _ _ (by rw [luC_get 25 _ _ hkN, hAk])
      have kP : ∀ x : Ext W', x.w.cell? ⟨w.heap.size, 0, none⟩ = some (.pointer (some ⟨B, 0, none⟩)) := fun x => (hst.P.later x.below).cell 0 _ rfl
      have kz : ∀ x : Ext W', x.w.frozen? ⟨B, k, none⟩ = false := fun x => (hst.A.later x.below).frozen _
      generalize thetaN A k = r at *
      generalize colK A 25 ((k % 5 + 4) % 5) ^^^ rotl (colK A 25 ((k % 5 + 1) % 5)) 1 = r1 at *
      generalize rotl (colK A 25 ((k % 5 + 1) % 5)) 1 = c1r at *
      generalize colK A 25 ((k % 5 + 4) % 5) = c4 at *
      generalize colK A 25 ((k % 5 + 1) % 5) = c1 at *
      generalize (k % 5 + 4) % 5 = x4 at *
      generalize (k % 5 + 1) % 5 = x1 at *
      generalize A k = ak at *
      generalize k % 5 = x5 at *
      generalize k / 5 = y5 at *
      have hx4I : (x4 : Int) < 5 := by omega
      have hx1I : (x1 : Int) < 5 := by omega
      have hk5I : (k : Int) < 25 := by omega
      have HST := Lib.hid hst
      have HD' := Lib.hid hD'
      have HS' := Lib.hid hS'
      have hDb : D ≠ B := by omega
      clear hst hH hS' hkN hx5 hz5 hAk hD'
      gi_wp2_with fail
      refine wpIn_region_mix (C := Grows W') (free_round l) [some true, some true, some true, some true, some true, some true, some true, some true, some true, some true, some true, some true, some true, some true, some true, some true, some true, some true, some true, some true, some true, none] hmx (by kernel_rfl) (by kernel_rfl) (grows_refl W') ?_
      simp only [headOf, tailOf]
      repeat (go_big_quiet_step (first | (with_reducible exact Ret.at HL.out _) | (with_reducible exact Ret.at HB4.out _) | (with_reducible exact Ret.at HB1.out _) | (with_reducible exact Ret.at HR.out _)))
      refine wpQuiet_nil ?_
      rintro _ ⟨x, rfl⟩
      have H2 := Lib.hid ((HST.out.later x.below).putA hBl k r HS'.out)
      have HKP := Lib.hid (x.keeps W.heap.size)
      have kz' := kz x
      have kA' := kA x
      have HD2 := Lib.hid ((Below.heap_setCell x.w ⟨B, k, none⟩ (.int .u64 (r : Int)) D hDb).trans ((x.below.block D (Array.getElem?_eq_some_iff.1 HD'.out).1).trans HD'.out))
      clear kz kS4 kS1 kA kP kb0 kb1
      go_wp2
      rw [calmPost_normal]
      gi_wp2
      exact ⟨HKP.out.trans ((KeepsOthers.setCell _ _ _).from _), trivial, H2.out, HD2.out⟩
    case done2 =>
      rintro D2 W2 hD2 ⟨hst, hK1⟩ hK2
      have HST := Lib.hid hst
      have HK1 := Lib.hid hK1
      have HK2 := Lib.hid hK2
      clear hst hK1 hK2 hJ2
      gi_wp2
      obtain ⟨W3, hW3⟩ : ∃ W3, W2.putObj D2 (.deferred none) = W3 := ⟨_, rfl⟩
      have hDD : D ≠ D2 := by omega
      have hK3 : W3.heap[D]? = some (.deferred (some [])) := by rw [← hW3]; exact (World.putObj_heap_other hDD).trans HK1.out
      have hne2 : D2 ≠ B := by omega
      have hne1 : D ≠ B := by omega
      have hA3 : Has W3 B 24 (luC 25 (thK A 25)) := by rw [← hW3]; exact (World.putObj_heap_other (fun e => hne2 e.symm)).trans HST.out.A
      have G3 : w.grownBy W3 (some B) := by rw [← hW3]; exact grown_putObj HST.out.G (by omega) _
      have hA4 : Has (W3.putObj D (.deferred none)) B 24 (luC 25 (thetaN A)) := by
        rw [luC_congr 25 (thetaN A) (thK A 25) (fun j hj => by unfold thK; rw [if_pos hj])]
        exact (World.putObj_heap_other (fun e => hne1 e.symm)).trans hA3
      refine ⟨by simp, .inl ⟨_, _, rfl, run_takeDeferred HK2.out, ?_⟩⟩
      rw [hW3]
      refine ⟨by simp, .inl ⟨_, _, rfl, run_takeDeferred hK3, ?_⟩⟩
      exact ⟨_, results_none rfl _ _ _, ⟨_, rfl⟩, hA4, grown_putObj G3 (by omega) _⟩
    case stop2 =>
      rintro D c k W _ _ h _
      exact h.elim
  case stop =>
    rintro D c k W _ _ h _
    exact h.elim
end Go.Proofs.YtobdjakflknlcaaDoor
