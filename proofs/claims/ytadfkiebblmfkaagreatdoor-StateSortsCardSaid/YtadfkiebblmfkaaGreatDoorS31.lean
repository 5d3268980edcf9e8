import Derived.Test.YtadfkiebblmfkaaGreatDoorS30
import Derived.Test.YtadfkiebblmfkaaGreatDoorS05
/- theta: each lane and the sums of the columns at both its sides. For all lanes. -/
namespace Go.Proofs.YtadfkiebblmfkaaGreatDoor
open Go Go.RowKit Go.Shelf
attribute [local go_sem] Oper.semAt_some Grows wide_fn
theorem field0 (x y : Int) (W : World) : (Instr.field 164 (.agg #[.int .u64 x, .int .u64 y]) 0).run Tryz.prog W = .ok (.int .u64 x) W := by
  have u := Tryz.underlying164
  have a3 := Tryz.isAgg127
  unfold Instr.field
  simp only [Sem.run_bind, run_underlying u, Result.andThen_ok]
  simp [go_sem, part, asAgg, a3]
attribute [local go_sem] field0

theorem Has.grown {A X : World} {row : Option Nat} {B : Nat} {t : TypeId} {cs : Array Value} (h : Has A B t cs) (hg : A.grownBy X row) (hr : ∀ r, row = some r → ∃ o : Obj, A.heap[r]? = some o ∧ o.isCells = false) : Has X B t cs := by
  refine (hg.block B h.lt (fun e => ?_)).trans h
  obtain ⟨o, ho, hc⟩ := hr B e.symm
  rw [show A.heap[B]? = _ from h] at ho
  cases ho
  cases hc
theorem Has.kept {A X : World} {row : Option Nat} {B : Nat} {t : TypeId} {cs : Array Value} (h : Has A B t cs) (hg : A.grownBy X row) (hne : some B ≠ row) : Has X B t cs := (hg.block B h.lt hne).trans h
/-- What was so from a world on, but for one block, is so behind a change of a block that is newer. -/
theorem grown_more {w A X : World} {B n : Nat} {row : Option Nat} (h : w.grownBy A (some B)) (hg : A.grownBy X row) (hn : w.heap.size ≤ n) (hr : ∀ r, row = some r → n ≤ r) : w.grownBy X (some B) :=
  ⟨hg.os.trans h.os, hg.tape.trans h.tape, hg.output.trans h.output, Nat.le_trans h.size hg.size, fun k hk hne => (hg.block k (Nat.lt_of_lt_of_le hk h.size) (fun e => by have := hr k e.symm; omega)).trans (h.block k hk hne)⟩

/-- What the blocks hold: the lanes, their address, the columns' sums. -/
structure ThSt (w : World) (B : Nat) (A S : Nat → Nat) (W : World) : Prop where
  A : Has W B 115 (luC 25 A)
  P : Has W w.heap.size 121 #[.pointer (some ⟨B, 0, none⟩)]
  S : Has W (w.heap.size + 1) 161 (luC 5 S)
  G : w.grownBy W (some B)
theorem ThSt.own (w : World) (B n : Nat) (hn : w.heap.size ≤ n) (A S : Nat → Nat → Nat) : OwnFrom n (fun (k : Nat) W => ThSt w B (A k) (S k) W) := fun s X Y row hs hg hr =>
  ⟨hs.A.grown hg (fun r e => (hr r e).2), hs.P.grown hg (fun r e => (hr r e).2), hs.S.grown hg (fun r e => (hr r e).2), grown_more hs.G hg hn (fun r e => (hr r e).1)⟩
theorem ThSt.later {w : World} {B : Nat} {A S : Nat → Nat} {W X : World} (h : ThSt w B A S W) (hb : Below W.heap.size W X) : ThSt w B A S X :=
  ⟨h.A.later hb, h.P.later hb, h.S.later hb, grown_then_below h.G hb⟩
theorem ThSt.put {w : World} {B : Nat} {A S S' : Nat → Nat} {W : World} (h : ThSt w B A S W) (hB : B < w.heap.size) (j v : Nat) (hS : ∀ i, i < 5 → S' i = if i = j then v else S i) :
    ThSt w B A S' (W.setCell ⟨w.heap.size + 1, j, none⟩ (.int .u64 ((v : Nat) : Int))) :=
  ⟨h.A.other (by simp; omega) _, h.P.other (by simp) _, by have := h.S.set j (.int .u64 ((v : Nat) : Int)); rwa [luC_set 5 S S' j v hS] at this, grown_set h.G (.inr (by simp)) _⟩
theorem ThSt.putA {w : World} {B : Nat} {A A' S : Nat → Nat} {W : World} (h : ThSt w B A S W) (hB : B < w.heap.size) (j v : Nat) (hS : ∀ i, i < 25 → A' i = if i = j then v else A i) :
    ThSt w B A' S (W.setCell ⟨B, j, none⟩ (.int .u64 ((v : Nat) : Int))) :=
  ⟨by have := h.A.set j (.int .u64 ((v : Nat) : Int)); rwa [luC_set 25 A A' j v hS] at this, h.P.other (by simp; omega) _, h.S.other (by simp; omega) _, grown_set h.G (.inl rfl) _⟩
theorem plV_eq (k : Nat) : plV k = .agg #[.int .u64 ((k % 5 : Nat) : Int), .int .u64 ((k / 5 : Nat) : Int)] := rfl
theorem plane_ret (k : Nat) (hk : k < 25) : Ret Tryz.prog 133 #[.agg #[.int .u64 ((k % 5 : Nat) : Int), .int .u64 ((k / 5 : Nat) : Int)]] (.int .u64 (k : Int)) :=
  (lane_ret _ _ ⟨by omega, by omega⟩ ⟨by omega, by omega⟩).of_eq rfl (by congr 1; omega)
theorem pbes_ret (k on : Nat) (ho : on < 5) : Ret Tryz.prog 134 #[.agg #[.int .u64 ((k % 5 : Nat) : Int), .int .u64 ((k / 5 : Nat) : Int)], .int .u64 (on : Int)] (.agg #[.int .u64 (((k % 5 + on) % 5 : Nat) : Int), .int .u64 ((k / 5 : Nat) : Int)]) :=
  (beside_ret _ _ (on : Int) ⟨by omega, by omega⟩ ⟨by omega, by omega⟩).of_eq rfl (by
    have : besI ((k % 5 : Nat) : Int) (on : Int) = (((k % 5 + on) % 5 : Nat) : Int) := by unfold besI; split <;> omega
    rw [this])
theorem xor_i (a b : Nat) (ha : a < 2 ^ 64) (hb : b < 2 ^ 64) : bits .xor .u64 (a : Int) (b : Int) = ((a ^^^ b : Nat) : Int) := bits_xor_u64_nat a b ha hb
/-- The lanes when theta's second round is at a place. -/
def thK (A : Nat → Nat) (k j : Nat) : Nat := if j < k then thetaN A j else A j

set_option maxRecDepth 100000 in
set_option maxHeartbeats 4000000 in
theorem theta_calls (B : Nat) (A : Nat → Nat) (hA : ∀ j, A j < 2 ^ 64) (w : World) (hB : Has w B 115 (luC 25 A)) :
    Calls Tryz.prog 107 #[.pointer (some ⟨B, 0, none⟩)] w fun e w' => (∃ v, e = .returned v) ∧ Has w' B 115 (luC 25 (thetaN A)) ∧ w.grownBy w' (some B) := by
  have hBl := hB.lt
  have hmx : Tryz.prog.follows .mixedOrders = true := by kernel_rfl
  refine (callsIn_wide (n := 8)).1 ?_
  refine callsIn_of_wp_marks Tryz.func107 rfl trivial ?_ rfl
  simp only [Tryz.ntmps107, List.size_toArray, List.length_cons, List.length_nil, Nat.reduceAdd, Nat.reduceSub, Array.replicate_succ, Array.replicate_zero, List.push_toArray, List.append_toArray, List.nil_append, List.cons_append]
  gi_wp2
  have LB := (hB.alloc (.cells #[.pointer (some ⟨B, 0, none⟩)] 121)).alloc (.cells (luC 5 (colK A 0)) 161)
  have LP := (Has.new w 121 #[.pointer (some ⟨B, 0, none⟩)]).alloc (.cells (luC 5 (colK A 0)) 161)
  have LS := Has.new (w.alloc (.cells #[.pointer (some ⟨B, 0, none⟩)] 121)) 161 (luC 5 (colK A 0))
  simp only [World.size_alloc] at LS
  have G := grown_alloc (grown_alloc (grown_of_below (Below.refl w.heap.size w) (some B)) (.cells #[.pointer (some ⟨B, 0, none⟩)] 121)) (.cells (luC 5 (colK A 0)) 161)
  have e5 : luC 5 (colK A 0) = #[.int .u64 0, .int .u64 0, .int .u64 0, .int .u64 0, .int .u64 0] := by rfl
  obtain ⟨W0, hW0⟩ : ∃ W0, (w.alloc (.cells #[.pointer (some ⟨B, 0, none⟩)] 121)).alloc (.cells (luC 5 (colK A 0)) 161) = W0 := ⟨_, rfl⟩
  have hsz : W0.heap.size = w.heap.size + 2 := by rw [← hW0]; simp
  rw [hW0] at LB LP LS G
  rw [e5] at hW0
  rw [hW0]
  have hJ0 : ThSt w B A (colK A 0) W0 := ⟨LB, LP, LS, G⟩
  clear hW0 LB LP LS G e5
  refine wpIn_rangeFunc_N rfl (by omega) (gf := 132) (lb := #[]) rfl trivial (enters_of Tryz.func132 (by kernel_rfl) rfl)
    (places_seq _ (by omega) (fun _ _ => True) W0) (fun _ _ => trivial) (fun _ _ _ _ _ _ _ _ => trivial) (fun _ _ => rfl)
    (fun k W => ThSt w B A (colK A k) W) (fun _ _ _ => False) (ThSt.own w B _ (by omega) (fun _ => A) (colK A)) (fun _ _ _ _ _ hs _ _ => hs) hJ0
    (fun k a' V => ∃ b, Has V b 164 #[.int .u64 ((k % 5 : Nat) : Int), .int .u64 ((k / 5 : Nat) : Int)] ∧ a' = { tmps := #[.pointer (some ⟨B, 0, none⟩), .pointer (some ⟨w.heap.size, 0, none⟩), .pointer (some ⟨w.heap.size + 1, 0, none⟩), .pointer (some ⟨b, 0, none⟩), undef, .agg #[.int .u64 ((k % 5 : Nat) : Int), .int .u64 ((k / 5 : Nat) : Int)], undef, undef, undef, undef, undef, undef, undef, undef, undef, undef, undef, undef, undef, undef, undef, undef, undef, undef, undef, undef, undef, undef, undef, undef, undef, undef, undef, undef, undef, undef, undef, undef, undef, undef], defers := [] }) (fun k a' _ X Y row hs hg hr => by obtain ⟨b, hH, e⟩ := hs; exact ⟨b, hH.grown hg (fun r e => (hr r e).2), e⟩) ?assign ?body ?done ?stop
  case assign =>
    intro l k W K hkN hst hK
    rw [plV_eq]
    have HST := Lib.hid hst
    have hWs := hst.G.size
    have hWs2 := hst.S.lt
    clear hst hkN
    have HK := Lib.hid hK
    clear hK
    gi_wp2
    exact HK.out _ _ ((KeepsOthers.alloc _ _).from _) trivial (HST.out.later ((Below.refl _ _).alloc (Nat.le_refl _) _)) ⟨_, Has.new _ _ _, rfl⟩
  case body =>
    rintro l k a' W hl hlo hkN hst ⟨b, hH, rfl⟩
    have hx5 : k % 5 < 5 := Nat.mod_lt _ (by omega)
    have hS' : ∀ i, i < 5 → colK A (k + 1) i = if i = k % 5 then colK A k (k % 5) ^^^ A k else colK A k i := fun i _ => by
      show (if i = k % 5 then colK A k i ^^^ A k else colK A k i) = _
      by_cases e : i = k % 5
      · rw [if_pos e, if_pos e, e]
      · rw [if_neg e, if_neg e]
    have hxr := xor_i (colK A k (k % 5)) (A k) (colK_lt A hA k _) (hA k)
    have HL := Lib.hid (plane_ret k hkN)
    have kb0 : ∀ x : Ext W, x.w.cell? ⟨b, 0, none⟩ = some (.int .u64 ((k % 5 : Nat) : Int)) := fun x => (hH.later x.below).cell 0 _ rfl
    have kb1 : ∀ x : Ext W, x.w.cell? ⟨b, 1, none⟩ = some (.int .u64 ((k / 5 : Nat) : Int)) := fun x => (hH.later x.below).cell 1 _ rfl
    have kS : ∀ x : Ext W, x.w.cell? ⟨w.heap.size + 1, k % 5, none⟩ = some (.int .u64 ((colK A k (k % 5) : Nat) : Int)) := fun x => (hst.S.later x.below).cell _ _ (luC_get 5 _ _ hx5)
    have kA : ∀ x : Ext W, x.w.cell? ⟨B, k, none⟩ = some (.int .u64 ((A k : Nat) : Int)) := fun x => (hst.A.later x.below).cell _ _ (luC_get 25 _ _ hkN)
    have kP : ∀ x : Ext W, x.w.cell? ⟨w.heap.size, 0, none⟩ = some (.pointer (some ⟨B, 0, none⟩)) := fun x => (hst.P.later x.below).cell 0 _ rfl
    have kz : ∀ x : Ext W, x.w.frozen? ⟨w.heap.size + 1, k % 5, none⟩ = false := fun x => (hst.S.later x.below).frozen _
    generalize colK A k (k % 5) ^^^ A k = r at *
    generalize colK A k (k % 5) = c at *
    generalize A k = ak at *
    generalize k % 5 = x5 at *
    generalize k / 5 = y5 at *
    have hx5I : (x5 : Int) < 5 := by omega
    have hk5I : (k : Int) < 25 := by omega
    have HST := Lib.hid hst
    have HS' := Lib.hid hS'
    clear hst hH hS' hkN hx5
    gi_wp2_with fail
    refine wpIn_region_mix (C := Grows W) (free_round l) [some true, some true, some true, some true, some true, some true, some true, some true, some true, some true, some true, some true, none] hmx (by kernel_rfl) (by kernel_rfl) (grows_refl W) ?_
    simp only [headOf, tailOf]
    repeat (go_big_quiet_step (first | (with_reducible exact Ret.at HL.out _)))
    refine wpQuiet_nil ?_
    rintro _ ⟨x, rfl⟩
    have H2 := Lib.hid ((HST.out.later x.below).put hBl x5 r HS'.out)
    have HKP := Lib.hid (x.keeps W0.heap.size)
    have kz' := kz x
    have kS' := kS x
    clear kz kS kA kP kb0 kb1
    go_wp2
    rw [calmPost_normal]
    gi_wp2
    exact ⟨HKP.out.trans ((KeepsOthers.setCell _ _ _).from _), trivial, H2.out⟩
  case done => 
    rintro D W hD hst hK
    have hWD : D < W.heap.size := (Array.getElem?_eq_some_iff.1 hK).1
    have hWs := hst.G.size
    have hJ2 : ThSt w B (thK A 0) (colK A 25) W := ⟨by rw [luC_congr 25 (thK A 0) A (fun j _ => by unfold thK; rw [if_neg (by omega)])]; exact hst.A, hst.P, hst.S, hst.G⟩
    have HK := Lib.hid hK
    clear hst hJ0 hK
    gi_wp2
    refine wpIn_rangeFunc_N rfl (by omega) (gf := 132) (lb := #[]) rfl trivial (enters_of Tryz.func132 (by kernel_rfl) rfl)
      (places_seq _ (by omega) (fun _ _ => True) W) (fun _ _ => trivial) (fun _ _ _ _ _ _ _ _ => trivial) (fun _ _ => rfl)
      (fun k W' => ThSt w B (thK A k) (colK A 25) W' ∧ W'.heap[D]? = some (.deferred (some []))) (fun _ _ _ => False)
      (fun s X Y row hs hg hr => ⟨ThSt.own w B W.heap.size (by omega) (thK A) (fun _ => colK A 25) s X Y row hs.1 hg hr, (hg.block D (Array.getElem?_eq_some_iff.1 hs.2).1 (fun e => by have := (hr D e.symm).1; omega)).trans hs.2⟩)
      (fun _ _ _ _ _ hs _ _ => hs) ⟨hJ2, HK.out⟩
      (fun k a' V => ∃ b, Has V b 164 #[.int .u64 ((k % 5 : Nat) : Int), .int .u64 ((k / 5 : Nat) : Int)] ∧ a' = { tmps := #[.pointer (some ⟨B, 0, none⟩), .pointer (some ⟨w.heap.size, 0, none⟩), .pointer (some ⟨w.heap.size + 1, 0, none⟩), undef, .pointer (some ⟨b, 0, none⟩), undef, undef, undef, undef, undef, undef, undef, undef, undef, undef, undef, undef, undef, .agg #[.int .u64 ((k % 5 : Nat) : Int), .int .u64 ((k / 5 : Nat) : Int)], undef, undef, undef, undef, undef, undef, undef, undef, undef, undef, undef, undef, undef, undef, undef, undef, undef, undef, undef, undef, undef], defers := [] }) (fun k a' _ X Y row hs hg hr => by obtain ⟨b, hH, e⟩ := hs; exact ⟨b, hH.grown hg (fun r e => (hr r e).2), e⟩) ?assign2 ?body2 ?done2 ?stop2
    case assign2 =>
      rintro l k W' K hkN ⟨hst, hD'⟩ hK
      rw [plV_eq]
      have HST := Lib.hid hst
      have HD' := Lib.hid hD'
      have hWs3 := hst.G.size
      have hWs4 := (Array.getElem?_eq_some_iff.1 hD').1
      have hWle : Hid (W'.heap.size = W'.heap.size) := Lib.hid rfl
      clear hst hkN hD'
      have HK2 := Lib.hid hK
      clear hK
      gi_wp2
      exact HK2.out _ _ ((KeepsOthers.alloc _ _).from _) trivial ⟨HST.out.later ((Below.refl _ _).alloc (Nat.le_refl _) _), (Below.heap_alloc _ _ _ hWs4).trans HD'.out⟩ ⟨_, Has.new _ _ _, rfl⟩
    case body2 =>
      rintro l k a' W' hl hlo hkN ⟨hst, hD'⟩ ⟨b, hH, rfl⟩
      have hx5 : (k % 5 + 4) % 5 < 5 := Nat.mod_lt _ (by omega)
      have hz5 : (k % 5 + 1) % 5 < 5 := Nat.mod_lt _ (by omega)
      have hS' : ∀ i, i < 25 → thK A (k + 1) i = if i = k then thetaN A k else thK A k i := fun i _ => by
        unfold thK
        by_cases e : i = k
        · rw [if_pos e, if_pos (by omega), e]
        · rw [if_neg e]
          by_cases e2 : i < k
          · rw [if_pos e2, if_pos (by omega)]
          · rw [if_neg e2, if_neg (by omega)]
      have hAk : thK A k k = A k := if_neg (Nat.lt_irrefl _)
      have hx1 := xor_i (colK A 25 ((k % 5 + 4) % 5)) (rotl (colK A 25 ((k % 5 + 1) % 5)) 1) (colK_lt A hA _ _) (rotl_lt _ _ (colK_lt A hA _ _))
      have hx2 := xor_i (A k) (colK A 25 ((k % 5 + 4) % 5) ^^^ rotl (colK A 25 ((k % 5 + 1) % 5)) 1) (hA k) (Nat.xor_lt_two_pow (colK_lt A hA _ _) (rotl_lt _ _ (colK_lt A hA _ _)))
      rw [show A k ^^^ (colK A 25 ((k % 5 + 4) % 5) ^^^ rotl (colK A 25 ((k % 5 + 1) % 5)) 1) = thetaN A k from rfl] at hx2
      have HL := Lib.hid (plane_ret k hkN)
      have HB4 : Hid (Ret Tryz.prog 134 #[.agg #[.int .u64 ((k % 5 : Nat) : Int), .int .u64 ((k / 5 : Nat) : Int)], .int .u64 4] (.agg #[.int .u64 (((k % 5 + 4) % 5 : Nat) : Int), .int .u64 ((k / 5 : Nat) : Int)])) := Lib.hid (pbes_ret k 4 (by omega))
      have HB1 : Hid (Ret Tryz.prog 134 #[.agg #[.int .u64 ((k % 5 : Nat) : Int), .int .u64 ((k / 5 : Nat) : Int)], .int .u64 1] (.agg #[.int .u64 (((k % 5 + 1) % 5 : Nat) : Int), .int .u64 ((k / 5 : Nat) : Int)])) := Lib.hid (pbes_ret k 1 (by omega))
      have HR : Hid (Ret Tryz.prog 135 #[.int .u64 ((colK A 25 ((k % 5 + 1) % 5) : Nat) : Int), .int .i64 1] (.int .u64 ((rotl (colK A 25 ((k % 5 + 1) % 5)) 1 : Nat) : Int))) := Lib.hid (rot_ret _ 1 (colK_lt A hA _ _) (by omega))
      have kb0 : ∀ x : Ext W', x.w.cell? ⟨b, 0, none⟩ = some (.int .u64 ((k % 5 : Nat) : Int)) := fun x => (hH.later x.below).cell 0 _ rfl
      have kb1 : ∀ x : Ext W', x.w.cell? ⟨b, 1, none⟩ = some (.int .u64 ((k / 5 : Nat) : Int)) := fun x => (hH.later x.below).cell 1 _ rfl
      have kS4 : ∀ x : Ext W', x.w.cell? ⟨w.heap.size + 1, (k % 5 + 4) % 5, none⟩ = some (.int .u64 ((colK A 25 ((k % 5 + 4) % 5) : Nat) : Int)) := fun x => (hst.S.later x.below).cell _ _ (luC_get 5 _ _ hx5)
      have kS1 : ∀ x : Ext W', x.w.cell? ⟨w.heap.size + 1, (k % 5 + 1) % 5, none⟩ = some (.int .u64 ((colK A 25 ((k % 5 + 1) % 5) : Nat) : Int)) := fun x => (hst.S.later x.below).cell _ _ (luC_get 5 _ _ hz5)
      have kA : ∀ x : Ext W', x.w.cell? ⟨B, k, none⟩ = some (.int .u64 ((A k : Nat) : Int)) := fun x => (hst.A.later x.below).cell _ _ (by rw [luC_get 25 _ _ hkN, hAk])
      have kP : ∀ x : Ext W', x.w.cell? ⟨w.heap.size, 0, none⟩ = some (.pointer (some ⟨B, 0, none⟩)) := fun x => (hst.P.later x.below).cell 0 _ rfl
      have kz : ∀ x : Ext W', x.w.frozen? ⟨B, k, none⟩ = false := fun x => (hst.A.later x.below).frozen _
      generalize thetaN A k = r at *
      generalize colK A 25 ((k % 5 + 4) % 5) ^^^ rotl (colK A 25 ((k % 5 + 1) % 5)) 1 = r1 at *
      generalize rotl (colK A 25 ((k % 5 + 1) % 5)) 1 = c1r at *
      generalize colK A 25 ((k % 5 + 4) % 5) = c4 at *
      generalize colK A 25 ((k % 5 + 1) % 5) = c1 at *
      generalize (k % 5 + 4) % 5 = x4 at *
      generalize (k % 5 + 1) % 5 = x1 at *
      generalize A k = ak at *
      generalize k % 5 = x5 at *
      generalize k / 5 = y5 at *
      have hx4I : (x4 : Int) < 5 := by omega
      have hx1I : (x1 : Int) < 5 := by omega
      have hk5I : (k : Int) < 25 := by omega
      have HST := Lib.hid hst
      have HD' := Lib.hid hD'
      have HS' := Lib.hid hS'
      have hDb : D ≠ B := by omega
      clear hst hH hS' hkN hx5 hz5 hAk hD'
      gi_wp2_with fail
      refine wpIn_region_mix (C := Grows W') (free_round l) [some true, some true, some true, some true, some true, some true, some true, some true, some true, some true, some true, some true, some true, some true, some true, some true, some true, some true, some true, some true, some true, none] hmx (by kernel_rfl) (by kernel_rfl) (grows_refl W') ?_
      simp only [headOf, tailOf]
      repeat (go_big_quiet_step (first | (with_reducible exact Ret.at HL.out _) | (with_reducible exact Ret.at HB4.out _) | (with_reducible exact Ret.at HB1.out _) | (with_reducible exact Ret.at HR.out _)))
      refine wpQuiet_nil ?_
      rintro _ ⟨x, rfl⟩
      have H2 := Lib.hid ((HST.out.later x.below).putA hBl k r HS'.out)
      have HKP := Lib.hid (x.keeps W.heap.size)
      have kz' := kz x
      have kA' := kA x
      have HD2 := Lib.hid ((Below.heap_setCell x.w ⟨B, k, none⟩ (.int .u64 (r : Int)) D hDb).trans ((x.below.block D (Array.getElem?_eq_some_iff.1 HD'.out).1).trans HD'.out))
      clear kz kS4 kS1 kA kP kb0 kb1
      go_wp2
      rw [calmPost_normal]
      gi_wp2
      exact ⟨HKP.out.trans ((KeepsOthers.setCell _ _ _).from _), trivial, H2.out, HD2.out⟩
    case done2 =>
      rintro D2 W2 hD2 ⟨hst, hK1⟩ hK2
      have HST := Lib.hid hst
      have HK1 := Lib.hid hK1
      have HK2 := Lib.hid hK2
      clear hst hK1 hK2 hJ2
      gi_wp2
      obtain ⟨W3, hW3⟩ : ∃ W3, W2.putObj D2 (.deferred none) = W3 := ⟨_, rfl⟩
      have hDD : D ≠ D2 := by omega
      have hK3 : W3.heap[D]? = some (.deferred (some [])) := by rw [← hW3]; exact (World.putObj_heap_other hDD).trans HK1.out
      have hne2 : D2 ≠ B := by omega
      have hne1 : D ≠ B := by omega
      have hA3 : Has W3 B 115 (luC 25 (thK A 25)) := by rw [← hW3]; exact (World.putObj_heap_other (fun e => hne2 e.symm)).trans HST.out.A
      have G3 : w.grownBy W3 (some B) := by rw [← hW3]; exact grown_putObj HST.out.G (by omega) _
      have hA4 : Has (W3.putObj D (.deferred none)) B 115 (luC 25 (thetaN A)) := by
        rw [luC_congr 25 (thetaN A) (thK A 25) (fun j hj => by unfold thK; rw [if_pos hj])]
        exact (World.putObj_heap_other (fun e => hne1 e.symm)).trans hA3
      refine ⟨by simp, .inl ⟨_, _, rfl, run_takeDeferred HK2.out, ?_⟩⟩
      rw [hW3]
      refine ⟨by simp, .inl ⟨_, _, rfl, run_takeDeferred hK3, ?_⟩⟩
      exact ⟨_, results_none rfl _ _ _, ⟨_, rfl⟩, hA4, grown_putObj G3 (by omega) _⟩
    case stop2 =>
      rintro D c k W _ _ h _
      exact h.elim
  case stop =>
    rintro D c k W _ _ h _
    exact h.elim
end Go.Proofs.YtadfkiebblmfkaaGreatDoor

/- A range over a function that turns blocks of its own: the iterator's contract and the loop's law, told by how many rounds are over; what the caller holds must hang on older blocks alone. Condition: the iterator's contract. -/
namespace Go.Proofs.YtadfkiebblmfkaaGreatDoor
open Go Go.RowKit

/-- The iterator's contract: round k is handed enc k; when all N are over, or one has said that there shall be no more, it returns. -/
def SeqB (F : Fence) (n : Nat) (P : Program) (g : Nat) (lb : Array Value) (enc : Nat → Array Value) (Kp : World → World → Prop) (N : Nat) (w : World) : Prop :=
  ∀ (l : Nat) (J Jx : Nat → World → Prop) (W : World), Below w.heap.size w W → (∀ s A X, J s A → Below W.heap.size A X → J s X) → (∀ s A X, Jx s A → Below W.heap.size A X → Jx s X) →
    (∀ k W1, k < N → J k W1 → YieldAt F (n - 1) P l (enc k) W1 fun e W' =>
      (e = .returned (.bool true) ∧ J (k + 1) W' ∧ Kp W1 W') ∨ (e = .returned (.bool false) ∧ Jx k W')) →
    J 0 W →
    CallsIn F n P g (#[.func (.yield l) #[] #[]] ++ lb) W fun e W' => (∃ v, e = .returned v) ∧ (J N W' ∨ ∃ k, k < N ∧ Jx k W')

variable {F : Fence} {n : Nat} {P : Program}

theorem wpIn_rangeFunc_B {g : Operand} {ps : Array Tmp} {assign body : Code} {Q : Exit → Act → World → Prop} {a : Act} {w : World}
    (hro : F.round = none) (h1 : 1 ≤ n) {gf : Nat} {lb : Array Value} (hg : a.eval g = .func (.func gf) #[] lb) (hFg : F.fn gf) (eg : ∀ args w, (callFunc gf args).run P w = .ok (.enter gf args) w)
    {enc : Nat → Array Value} {Kp : World → World → Prop} {N : Nat} (hseq : SeqB F (n - 1) P gf lb enc Kp N w)
    (hKt : ∀ {A B C : World}, Kp A B → Kp B C → Kp A C) (hKb : ∀ (W : World) (l : Nat) (o o' : Obj), w.heap.size ≤ l → W.heap[l]? = some o → o.isCells = false → o.isWalk = false → Kp W (W.putObj l o')) (hps : ∀ k, k < N → (enc k).size = ps.size)
    (I : Nat → World → Prop) (Ix : Code → Nat → World → Prop) (hI : OwnFrom w.heap.size I) (hIx : ∀ c, OwnFrom w.heap.size (Ix c)) (hIb : ∀ s A X, I s A → Below w.heap.size A X → I s X) (hIxb : ∀ c s A X, Ix c s A → Below w.heap.size A X → Ix c s X) (h0 : I 0 w) (Ax : Nat → Act → World → Prop) (hAx : ∀ k a', OwnFrom w.heap.size (fun (_ : Unit) W => Ax k a' W))
    (hassign : ∀ (l k : Nat) (W : World) (K : Act → World → Prop), k < N → I k W → (∀ a' W', KeepsFrom w.heap.size W W' → Kp W W' → I k W' → Ax k a' W' → K a' W') →
      assign.wpIn (F.inRound l) (n - 1 - 1) P (Exit.then K (fun _ _ _ => False)) { tmps := (ps.zip (enc k)).foldl (fun t (p, v) => t.setIfInBounds p v) a.tmps, defers := [] } W)
    (hbody : ∀ (l k : Nat) (a' : Act) (W : World), w.heap.size ≤ l → (∃ r, W.heap[l]? = some (.loop r)) → k < N → I k W → Ax k a' W → body.wpIn (F.inRound l) (n - 1 - 1) P (roundN w.heap.size Kp I Ix k W) a' W)
    (hdone : ∀ (D : Nat) (W : World), w.heap.size ≤ D → I N W → W.heap[D]? = some (.deferred (some [])) → Q .normal { a with defers := { target := .collected D, args := #[] } :: a.defers } W)
    (hstop : ∀ (D : Nat) (c : Code) (k : Nat) (W : World), w.heap.size ≤ D → k < N → Ix c k W → W.heap[D]? = some (.deferred (some [])) → c.wpIn F n P Q { a with defers := { target := .collected D, args := #[] } :: a.defers } W) :
    (Code.rangeFunc g ps assign body).wpIn F n P Q a w := by
  refine wpIn_rangeFunc ?_
  intro fn hfn
  rw [hro]
  obtain ⟨rec, hrec⟩ : ∃ rec : LoopState → Option Code → Loop, rec = fun st pe => { state := st, pending := pe, fn, tmps := a.tmps, params := ps, assign, body, defers := w.heap.size } := ⟨_, rfl⟩
  obtain ⟨W1, hW1⟩ : ∃ W1, (w.alloc (.deferred (some []))).alloc (.loop (rec .ready none)) = W1 := ⟨_, rfl⟩
  have hL1 : W1.heap[w.heap.size + 1]? = some (.loop (rec .ready none)) := by
    rw [← hW1]; have := World.alloc_heap_new (w.alloc (.deferred (some []))) (.loop (rec .ready none)); rwa [World.size_alloc] at this
  have hK1 : W1.heap[w.heap.size]? = some (.deferred (some [])) := by
    rw [← hW1]; exact (Below.heap_alloc _ _ _ (by simp)).trans (World.alloc_heap_new w _)
  have hI1 : I 0 W1 := by rw [← hW1]; exact hI.alloc _ (hI.alloc _ h0)
  have hb1 : Below w.heap.size w W1 := by
    rw [← hW1]; exact ((Below.refl _ w).alloc (Nat.le_refl _) _).alloc (by simp) _
  refine ⟨w.heap.size + 1, [{ target := .collected w.heap.size, args := #[] }], W1, { target := .fn (.func gf) lb, args := #[.func (.yield (w.heap.size + 1)) #[] #[]] }, W1, gf,
    #[.func (.yield (w.heap.size + 1)) #[] #[]] ++ lb, W1, ?_, ?_, ?_, ?_, fun _ => h1, ?_⟩
  · rw [← hW1, hrec]; exact run_enterLoop_outer _ _ _ _ _
  · simp only [resolve, hg]
    simp [go_sem]
  · intro f' hf'; simp [Target.leads] at hf'; subst hf'; exact hFg
  · simp [invoke, go_sem, eg]
  · skip
    refine (hseq (w.heap.size + 1)
      (fun k W => I k W ∧ W.heap[w.heap.size + 1]? = some (.loop (rec .ready none)) ∧ W.heap[w.heap.size]? = some (.deferred (some [])))
      (fun k W => ∃ c, Ix c k W ∧ W.heap[w.heap.size + 1]? = some (.loop (rec .done (some c))) ∧ W.heap[w.heap.size]? = some (.deferred (some [])))
      W1 hb1
      (fun s A X hs hb => by
        have hsz : W1.heap.size = w.heap.size + 2 := by rw [← hW1]; simp
        exact ⟨hIb s A X hs.1 (hb.mono (by omega)), (hb.block _ (by omega)).trans hs.2.1, (hb.block _ (by omega)).trans hs.2.2⟩)
      (fun s A X hs hb => by
        have hsz : W1.heap.size = w.heap.size + 2 := by rw [← hW1]; simp
        obtain ⟨c, hc, hl, hk⟩ := hs
        exact ⟨c, hIxb c s A X hc (hb.mono (by omega)), (hb.block _ (by omega)).trans hl, (hb.block _ (by omega)).trans hk⟩)
      ?_ ⟨hI1, hL1, hK1⟩).mono ?_
    · rintro k W hkN ⟨hi, hl, hk⟩
      have hlt : w.heap.size + 1 < W.heap.size := (Array.getElem?_eq_some_iff.1 hl).1
      have hy := run_yield (P := P) (args := enc k) hl (by rw [hrec]; exact hps k hkN)
      rw [hrec] at hy
      refine ⟨fn, _, assign, body, hy, roundIn_of_wpIn hfn (hassign _ k W _ hkN hi ?_)⟩
      clear hy
      intro a' Wa hkfa hkpa hia hax
      replace hl := hkfa.same _ _ (by omega) hl rfl
      replace hk := hkfa.same _ _ (Nat.le_refl _) hk rfl
      replace hlt : w.heap.size + 1 < Wa.heap.size := (Array.getElem?_eq_some_iff.1 hl).1
      refine ⟨_, run_beginRound hl (by rw [hrec]), ?_⟩
      have hl2 : (Wa.putObj (w.heap.size + 1) (.loop { rec .ready none with state := .busy })).heap[w.heap.size + 1]? = some (.loop { rec .ready none with state := .busy }) := World.putObj_heap_same hlt
      have hk2 : (Wa.putObj (w.heap.size + 1) (.loop { rec .ready none with state := .busy })).heap[w.heap.size]? = some (.deferred (some [])) := (World.putObj_heap_other (by omega)).trans hk
      have hw2 : Kp Wa (Wa.putObj (w.heap.size + 1) (.loop { rec .ready none with state := .busy })) := hKb _ _ _ _ (by omega) hl rfl rfl
      refine wpIn_mono (hbody _ k a' _ (by omega) ⟨_, hl2⟩ hkN (hI.putObj _ hia (by omega) hl rfl) ((hAx k a').putObj (s := ()) _ hax (by omega) hl rfl)) ?_
      have fin : ∀ (jump : Option Code) (W3 : World), KeepsFrom w.heap.size (Wa.putObj (w.heap.size + 1) (.loop { rec .ready none with state := .busy })) W3 →
          (Instr.endRound (w.heap.size + 1) jump).run P W3 = .ok (.bool jump.isNone) (W3.putObj (w.heap.size + 1) (.loop (rec (if jump.isNone then .ready else .done) jump))) ∧
          W3.heap[w.heap.size + 1]? = some (.loop { rec .ready none with state := .busy }) ∧
          (W3.putObj (w.heap.size + 1) (.loop (rec (if jump.isNone then .ready else .done) jump))).heap[w.heap.size + 1]? = some (.loop (rec (if jump.isNone then .ready else .done) jump)) ∧
          (W3.putObj (w.heap.size + 1) (.loop (rec (if jump.isNone then .ready else .done) jump))).heap[w.heap.size]? = some (.deferred (some [])) := fun jump W3 hk3 => by
        have hl3 := hk3.same _ _ (by omega) hl2 rfl
        have := run_endRound (P := P) jump hl3
        rw [hrec] at this ⊢
        exact ⟨this, by rw [hrec] at hl3; exact hl3, World.putObj_heap_same (Array.getElem?_eq_some_iff.1 hl3).1, (World.putObj_heap_other (by omega)).trans (hk3.same _ _ (Nat.le_refl _) hk2 rfl)⟩
      rintro e a3 W3 hp
      cases e with
      | normal =>
        obtain ⟨hk3, hkp3, hi3⟩ := hp
        obtain ⟨hr, hl3, hl4, hk4⟩ := fin none W3 hk3
        exact ⟨_, _, hr, .inl ⟨rfl, ⟨hI.putObj _ hi3 (by omega) hl3 rfl, hl4, hk4⟩, hKt hkpa (hKt (hKt hw2 hkp3) (hKb _ _ _ _ (by omega) hl3 rfl rfl))⟩⟩
      | ret =>
        obtain ⟨hk3, hi3⟩ := hp
        obtain ⟨hr, hl3, hl4, hk4⟩ := fin (some .ret) W3 hk3
        exact ⟨_, _, hr, .inr ⟨rfl, .ret, (hIx _).putObj _ hi3 (by omega) hl3 rfl, hl4, hk4⟩⟩
      | exit id =>
        obtain ⟨hk3, hi3⟩ := hp
        obtain ⟨hr, hl3, hl4, hk4⟩ := fin (some (.exit id)) W3 hk3
        exact ⟨_, _, hr, .inr ⟨rfl, .exit id, (hIx _).putObj _ hi3 (by omega) hl3 rfl, hl4, hk4⟩⟩
      | goto t =>
        obtain ⟨hk3, hi3⟩ := hp
        obtain ⟨hr, hl3, hl4, hk4⟩ := fin (some (.goto t)) W3 hk3
        exact ⟨_, _, hr, .inr ⟨rfl, .goto t, (hIx _).putObj _ hi3 (by omega) hl3 rfl, hl4, hk4⟩⟩
      | panic ch => exact hp.elim
      | outgrown => exact hp.elim
    · rintro e W2 ⟨⟨v, rfl⟩, (⟨hi, hl, hk⟩ | ⟨k, hkN, c, hi, hl, hk⟩)⟩
      · exact ⟨none, _, by have := run_endLoop (P := P) hl (by rw [hrec]; simp); rw [hrec] at this; exact this, hdone _ _ (Nat.le_refl _) (hI.putObj _ hi (by omega) hl rfl) ((World.putObj_heap_other (by omega)).trans hk)⟩
      · exact ⟨some c, _, by have := run_endLoop (P := P) hl (by rw [hrec]; simp); rw [hrec] at this; exact this, hstop _ c k _ (Nat.le_refl _) hkN ((hIx c).putObj _ hi (by omega) hl rfl) ((World.putObj_heap_other (by omega)).trans hk)⟩

end Go.Proofs.YtadfkiebblmfkaaGreatDoor

/- The walk of rho and pi: an iterator with a place of its own. Conditions: none. -/
namespace Go.Proofs.YtadfkiebblmfkaaGreatDoor
open Go Go.RowKit Go.Shelf
attribute [local go_sem] Oper.semAt_some

/-- Blocks of cells from n on are as they were. -/
def KC (n : Nat) (A X : World) : Prop := ∀ b o, n ≤ b → A.heap[b]? = some o → o.isCells = true → X.heap[b]? = some o
theorem KC.refl (n : Nat) (A : World) : KC n A A := fun _ _ _ h _ => h
theorem KC.trans {n : Nat} {A B C : World} (h : KC n A B) (k : KC n B C) : KC n A C := fun b o hb ho hc => k b o hb (h b o hb ho hc) hc
theorem KC.put {n : Nat} (W : World) (l : Nat) (o o' : Obj) (_ : n ≤ l) (hl : W.heap[l]? = some o) (ho : o.isCells = false) (_ : o.isWalk = false) : KC n W (W.putObj l o') := fun b ob _ hob hc => by
  refine (World.putObj_heap_other (fun e => ?_)).trans hob
  subst e
  rw [hl] at hob
  cases hob
  rw [ho] at hc
  cases hc
theorem KC.later {n : Nat} {A X : World} (h : Below A.heap.size A X) : KC n A X := fun b o _ ho _ => (h.block b (Array.getElem?_eq_some_iff.1 ho).1).trans ho
theorem KC.set {n : Nat} (A : World) {p : Addr} (hp : p.block < n) (v : Value) : KC n A (A.setCell p v) := fun b o hb ho _ => (Below.heap_setCell A p v b (by omega)).trans ho
theorem Has.kc {n : Nat} {A X : World} {B : Nat} {t : TypeId} {cs : Array Value} (h : Has A B t cs) (hk : KC n A X) (hn : n ≤ B) : Has X B t cs := hk B _ hn h rfl

/-- A step's numbers, as values. -/
def wkV (k : Nat) : Array Value := #[.int .i64 (((k + 1) * (k + 2) / 2 : Nat) : Int), .agg #[.int .u64 (((wx k).1 : Nat) : Int), .int .u64 (((wx k).2 : Nat) : Int)]]

set_option maxRecDepth 100000 in
set_option maxHeartbeats 2000000 in
theorem walk_seq (n : Nat) (hn : 1 ≤ n) (w : World) : SeqB Fence.wide n Tryz.prog 136 #[] wkV (KC w.heap.size) 24 w := by
  intro l J Jx W hW hJA _ hY h0
  refine callsIn_of_wp Tryz.func136 rfl trivial ?_ rfl
  simp only [Tryz.ntmps136, List.size_toArray, List.length_cons, List.length_nil, Nat.reduceAdd, Nat.reduceSub, Array.replicate_succ, Array.replicate_zero, List.push_toArray, List.append_toArray, List.nil_append, List.cons_append]
  have HJA := Lib.hid hJA
  have hwW := hW.size
  have L0 := Has.new W 164 #[.int .u64 1, .int .u64 0]
  have J0 := hJA _ _ _ h0 ((Below.refl W.heap.size W).alloc (Nat.le_refl _) (.cells #[.int .u64 1, .int .u64 0] 164))
  have hs0 : W.heap.size < (W.alloc (.cells #[.int .u64 1, .int .u64 0] 164)).heap.size := by simp
  clear hJA h0
  gi_wp2
  gi_loopw [5] (fun i wr => ∃ k : Nat, k ≤ 24 ∧ i = .int .i64 k ∧ J k wr ∧ Has wr W.heap.size 164 #[.int .u64 (((wx k).1 : Nat) : Int), .int .u64 (((wx k).2 : Nat) : Int)] ∧ W.heap.size < wr.heap.size) (fun i _ => 24 - (intOf i).toNat)
  case atStart => exact ⟨0, Nat.zero_le _, rfl, J0, L0, hs0⟩
  case round =>
    obtain ⟨k, hk, rfl, hJs, hL, hsz⟩ := hrel
    clear J0 L0 hs0
    by_cases hlt : k < 24
    · obtain ⟨fn, tmps, assign, body, hy, hR⟩ := hY k wr hlt hJs
      unfold wkV at hy
      have hkI : (k : Int) < 24 := by omega
      have m0 : 0 ≤ ((k : Int) + 1) * ((k : Int) + 2) := by
        have := Int.mul_nonneg (show 0 ≤ (k : Int) + 1 by omega) (show 0 ≤ (k : Int) + 2 by omega); exact this
      have m1 : ((k : Int) + 1) * ((k : Int) + 2) ≤ 25 * 26 := Int.mul_le_mul (by omega) (by omega) (by omega) (by omega)
      have m2 : (((k : Int) + 1) * ((k : Int) + 2)).tdiv 2 = (((k + 1) * (k + 2) / 2 : Nat) : Int) := by
        rw [Int.tdiv_eq_ediv_of_nonneg m0, Int.natCast_ediv, Int.natCast_mul]; rfl
      have c0 := hL.cell 0 _ rfl
      have c1 := hL.cell 1 _ rfl
      have hx := (wx_lt k).1
      have hy5 := (wx_lt k).2
      have e1 : (((wx (k + 1)).1 : Nat) : Int) = (((wx k).2 : Nat) : Int) := rfl
      have e2 : (((wx (k + 1)).2 : Nat) : Int) = (2 * (((wx k).1 : Nat) : Int) + 3 * (((wx k).2 : Nat) : Int)) % 5 := by
        show (((2 * (wx k).1 + 3 * (wx k).2) % 5 : Nat) : Int) = _
        omega
      have HN := Lib.hid (next_ret _ _ ⟨Int.natCast_nonneg (wx k).1, by omega⟩ ⟨Int.natCast_nonneg (wx k).2, by omega⟩)
      have HE := Lib.hid (And.intro e1 e2)
      have HL := Lib.hid hL
      have HZ := Lib.hid hsz
      clear hx hy5 e1 e2 hL hsz
      have t0 : 0 ≤ (((k + 1) * (k + 2) / 2 : Nat) : Int) := Int.natCast_nonneg _
      have t1 : (((k + 1) * (k + 2) / 2 : Nat) : Int) < 1000 := by
        have : (k + 1) * (k + 2) ≤ 25 * 26 := Nat.mul_le_mul (by omega) (by omega)
        omega
      generalize (((k + 1) * (k + 2) / 2 : Nat) : Int) = tr at *
      gi_wp2
      refine hR.mono ?_
      rintro e W3 (⟨rfl, hJ3, hk3⟩ | ⟨rfl, hJx3⟩)
      · have L3 := HL.out.kc hk3 hwW
        have d0 := L3.cell 0 _ rfl
        have d1 := L3.cell 1 _ rfl
        have HJ3 := Lib.hid hJ3
        clear c0 c1 hJ3 hk3
        gi_wp2_with fail
        refine ⟨trivial, (callsIn_free free_wide (HN.out _)).mono ?_⟩
        rintro e W4 ⟨rfl, q⟩
        have L4 := L3.later q
        have J4 := Lib.hid (HJA.out _ _ _ HJ3.out (q.mono (by have := L3.lt; omega)))
        have f0 := L4.frozen 0
        have f1 := L4.frozen 1
        have g0 := L4.cell 0 _ rfl
        have g1 := L4.cell 1 _ rfl
        have HL4 := Lib.hid L4
        clear d0 d1 L3 L4 q
        gi_wp2
        go_roundw
        case rel =>
          refine ⟨k + 1, by omega, by simp, HJA.out _ _ _ J4.out (((Below.refl W.heap.size W4).setCell (Nat.le_refl _) _).setCell (Nat.le_refl _) _), ?_, by have := HL4.out.lt; simp; omega⟩
          rw [HE.out.1, HE.out.2]
          exact (HL4.out.set 0 _).set 1 _
        case measure => simp [intOf]; omega
      · gi_wp2
        refine bodyPost_ret (results_none rfl _ _ _) rfl ?_
        exact ⟨⟨_, rfl⟩, .inr ⟨k, hlt, hJx3⟩⟩
    · obtain rfl : k = 24 := by omega
      gi_wp2
      go_end0
      exact ⟨⟨_, rfl⟩, .inl hJs⟩
end Go.Proofs.YtadfkiebblmfkaaGreatDoor
